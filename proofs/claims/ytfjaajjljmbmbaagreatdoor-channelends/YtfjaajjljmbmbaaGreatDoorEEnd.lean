/-
  ends: the ends of one channel are told alike by all calls.
-/
import Derived.Test.YtfjaajjljmbmbaaGreatDoorGP2
import Derived.Test.YtfjaajjljmbmbaaGreatDoorCSame
import Derived.Test.YtfjaajjljmbmbaaGreatDoorGCe
import Derived.BigFrame
namespace Go.Proofs.YtfjaajjljmbmbaaGreatDoor
open Go.RowKit Plain
set_option linter.unusedVariables false
set_option linter.unusedSimpArgs false
set_option maxRecDepth 100000

/-- an image that is read: its ports and channels, their bounds -/
structure Rd (w : World) (F : Nat → Prop) (a1 : Option Addr) (n1 c1 : Nat) (a2 : Option Addr) (n c : Nat) (ps : List Po) (L : List Ch) : Prop where
  qs : Ls 6 elPo w F a1 n1 c1 ps
  cs : Ls 5 elCh w F a2 n c L
  bL : L.length ≤ 17592186043904
  bd : ∀ x ∈ L, x.dst.length ≤ 17592186043904
theorem Rd.on {w w' : World} {F : Nat → Prop} {a1 : Option Addr} {n1 c1 : Nat} {a2 : Option Addr} {n c : Nat} {ps : List Po} {L : List Ch} (h : Rd w F a1 n1 c1 a2 n c ps L) (k : Kept No w w') : Rd w' F a1 n1 c1 a2 n c ps L :=
  ⟨h.qs.kept k (fun _ _ h => h) (elPo_kept k (fun _ _ h => h)), h.cs.kept k (fun _ _ h => h) (elCh_kept k (fun _ _ h => h)), h.bL, h.bd⟩
theorem Hd.zs' {w : World} {g cap : Nat} {zs : List Int} (h : Hd w g zs) (h1 : zs.length ≤ cap) (h2 : cap ≤ 9223372036854775807) : Zs w (fun _ => True) (some ⟨g, 0, none⟩) zs.length cap zs :=
  ⟨rfl, h1, h2, fun h => (by cases h), fun i hi => ⟨g, 0, rfl, trivial, by rw [Nat.zero_add]; exact h.cell hi⟩⟩
theorem zs_nums {w : World} {B : Nat} {va : Option Addr} {vc : Nat} {p : Ch → Bool} {L : List Ch} (h : w.ownsRow B 3 1 (.slice va (numsN p L) vc) (numsN p L) ((List.range (numsN p L)).map (fun i => iv (numsV p L i)))) : Zs w (fun _ => True) va (numsN p L) vc (numsL p L) := by
  rw [numsL_eq] at h
  have hl : (numsL p L).length = numsN p L := numsL_len p L
  rw [← hl] at h
  obtain ⟨a, c, e, hz⟩ := Zs.of_owns h
  simp only [Value.slice.injEq] at e
  obtain ⟨rfl, _, rfl⟩ := e
  rw [← hl]
  exact hz.mono (fun _ _ => trivial)
theorem outlet_zs {F : Nat → Prop} {a0 a1 a2 : Option Addr} {n0 c0 n1 c1 n c : Nat} {L : List Ch} {ps : List Po} (m : Int) {w : World} (h : Rd w F a1 n1 c1 a2 n c ps L) :
    Calls Tryz.prog 5 #[.agg #[.slice a0 n0 c0, .slice a1 n1 c1, .slice a2 n c], .int .i64 m] w fun e w' => ∃ va vn vc, e = .returned (.slice va vn vc) ∧ Zs w' (fun _ => True) va vn vc (numsL (fun c => ownB ps m c.fr) L) ∧ Kept No w w' :=
  (outlet_any m h.qs h.cs h.bL).mono (by rintro e w' ⟨va, vc, rfl, ho, k⟩; exact ⟨va, _, vc, rfl, zs_nums ho, k⟩)
theorem inlet_zs {F : Nat → Prop} {a0 a1 a2 : Option Addr} {n0 c0 n1 c1 n c : Nat} {L : List Ch} {ps : List Po} (m : Int) {w : World} (h : Rd w F a1 n1 c1 a2 n c ps L) :
    Calls Tryz.prog 6 #[.agg #[.slice a0 n0 c0, .slice a1 n1 c1, .slice a2 n c], .int .i64 m] w fun e w' => ∃ va vn vc, e = .returned (.slice va vn vc) ∧ Zs w' (fun _ => True) va vn vc (numsL (fun c => c.dst.any (ownB ps m)) L) ∧ Kept No w w' :=
  (inlet_any m h.qs h.cs h.bL).mono (by rintro e w' ⟨va, vc, rfl, ho, k⟩; exact ⟨va, _, vc, rfl, zs_nums ho, k⟩)
theorem parts_zs {F : Nat → Prop} {a0 a1 a2 : Option Addr} {n0 c0 n1 c1 n c k : Nat} {ps : List Po} {L : List Ch} {x : Ch} (w : World) (h : Rd w F a1 n1 c1 a2 n c ps L) (hk : L[k]? = some x) :
    Calls Tryz.prog 9 #[.agg #[.slice a0 n0 c0, .slice a1 n1 c1, .slice a2 n c], .int .i64 ((k : Int) + 1)] w fun e w' => ∃ va vn vc, e = .returned (.tuple #[.int .i64 (partV ps x.fr), .slice va vn vc, .int .i64 0]) ∧ Zs w' (fun _ => True) va vn vc (partsL ps x.dst) ∧ Kept No w w' :=
  (parts_yes w h.qs h.cs hk (h.bd x (List.mem_of_getElem? hk))).mono (by rintro e w' ⟨g, cap, rfl, _, _, h1, h2, hd, k⟩; exact ⟨_, _, _, rfl, hd.zs' h1 h2, k⟩)
theorem Zs.on {w w' : World} {a : Option Addr} {n c : Nat} {xs : List Int} (h : Zs w (fun _ => True) a n c xs) (k : Kept No w w') : Zs w' (fun _ => True) a n c xs := h.kept k (fun _ _ h => h)

theorem er_fCh2 {w : World} {a : Act} {o : Oper} (x : Operand) (ho : o.op = .fieldAddr 39 x 2) (g : Nat) (hx : a.eval x = .pointer (some ⟨g, 0, none⟩)) : (execOp a.eval o).run Tryz.prog w = .ok (.value (.pointer (some ⟨g, 2, none⟩))) w := by simp only [execOp, ho, hx]; simp [go_sem]
theorem er_idxI {w : World} {a : Act} {o : Oper} (x y : Operand) (ho : o.op = .indexAddr 28 x y) (b off n c d : Nat) (hd : d < n) (hn : n ≤ 9223372036854775807) (hx : a.eval x = .slice (some ⟨b, off, none⟩) n c) (hy : a.eval y = .int .i64 d) : (execOp a.eval o).run Tryz.prog w = .ok (.value (.pointer (some ⟨b, off + d, none⟩))) w := by
  simp only [execOp, ho, hx, hy]
  simp [go_sem, add_none]
  omega
theorem ld_img {w : World} {g : Nat} {u v x : Value} (h0 : w.cell? ⟨g, 0, none⟩ = some u) (h1 : w.cell? ⟨g, 1, none⟩ = some v) (h2 : w.cell? ⟨g, 2, none⟩ = some x) : (Instr.loadAt 26 (.pointer (some ⟨g, 0, none⟩))).run Tryz.prog w = .ok (.agg #[u, v, x]) w := by simp [go_sem, h0, h1, h2]
theorem ld_sl {w : World} {g off : Nat} {v : Value} (h : w.cell? ⟨g, off, none⟩ = some v) : (Instr.loadAt 28 (.pointer (some ⟨g, off, none⟩))).run Tryz.prog w = .ok v w := by simp [go_sem, h]
theorem ld_i {w : World} {g off : Nat} {v : Value} (h : w.cell? ⟨g, off, none⟩ = some v) : (Instr.loadAt 3 (.pointer (some ⟨g, off, none⟩))).run Tryz.prog w = .ok v w := by simp [go_sem, h]
theorem ec_own {w : World} {a : Act} {o : Oper} (x y : Operand) (t t' : TypeId) (ho : o.op = .call { callee := .value (.func 21), args := #[x, y], argTypes := #[t, t'] }) (v u : Value) (hx : a.eval x = v) (hy : a.eval y = u) : (execOp a.eval o).run Tryz.prog w = .ok (.enter 21 #[v, u]) w := by
  subst hx hy; simp [execOp, ho, go_sem, Act.eval]
theorem own_self {ps : List Po} {t : Int} (h : 0 < partV ps t) : ownB ps (partV ps t) t = true := by unfold ownB; simp; omega

attribute [local irreducible] wpQuiet
set_option maxHeartbeats 16000000 in
theorem ends_any {F : Nat → Prop} {a0 a1 a2 : Option Addr} {n0 c0 n1 c1 n c k : Nat} {ps : List Po} {L : List Ch} {x : Ch} (w : World) (h : Rd w F a1 n1 c1 a2 n c ps L) (hk : L[k]? = some x) :
    Calls Tryz.prog 8 #[.agg #[.slice a0 n0 c0, .slice a1 n1 c1, .slice a2 n c], .int .i64 ((k : Int) + 1)] w fun e w' => e = .returned (.bool true) ∧ Kept No w w' := by
  have hl := h.cs.len
  have hm := h.cs.max
  have hcap := h.cs.cap
  have hkl : k < L.length := (List.getElem?_eq_some_iff.1 hk).1
  have hkn : k < n := by omega
  obtain ⟨b, o, cs, rfl, hF, hcl, hr, ⟨ta, tn, tc, rfl, hT⟩, hok⟩ := h.cs.at' k x hk
  have K0 : Kept No w (w.alloc (.cells #[.slice a0 n0 c0, .slice a1 n1 c1, .slice (some ⟨b, o, none⟩) n c] 26)) := (Kept.refl No w).alloc _
  have d0 := K0.cell (hr 0 _ rfl) (fun h => h)
  have d1 := K0.cell (hr 1 _ rfl) (fun h => h)
  have d2 := K0.cell (hr 2 _ rfl) (fun h => h)
  have d3 := K0.cell (hr 3 _ rfl) (fun h => h)
  have d4 := K0.cell (hr 4 _ rfl) (fun h => h)
  rw [Nat.add_zero] at d0
  have htl := hT.len
  have htm := hT.max
  have htc := hT.cap
  have HM : Hid (∀ W, Kept No ((w.alloc (.cells #[.slice a0 n0 c0, .slice a1 n1 c1, .slice (some ⟨b, o, none⟩) n c] 26)).alloc (.cells #[.int .i64 x.kd, .int .i64 x.fr, .slice ta tn tc, .int .i64 x.ph, .int .i64 x.pe] 39)) W → W.cell? ⟨w.heap.size, 0, none⟩ = some (.slice a0 n0 c0) ∧ W.cell? ⟨w.heap.size, 1, none⟩ = some (.slice a1 n1 c1) ∧ W.cell? ⟨w.heap.size, 2, none⟩ = some (.slice (some ⟨b, o, none⟩) n c) ∧ W.cell? ⟨w.heap.size + 1, 1, none⟩ = some (.int .i64 x.fr) ∧ W.cell? ⟨w.heap.size + 1, 2, none⟩ = some (.slice ta tn tc) ∧ Kept No w W) := fun W q => ⟨q.cell (by simp) (fun h => h), q.cell (by simp) (fun h => h), q.cell (by simp) (fun h => h), q.cell (by simp) (fun h => h), q.cell (by simp) (fun h => h), (K0.alloc _).trans q (fun _ h => h.elim)⟩
  have HR : Hid (∀ W, Kept No w W → Rd W F a1 n1 c1 (some ⟨b, o, none⟩) n c ps L) := fun W q => h.on q
  have HT : Hid (Ls 1 elI w F ta tn tc x.dst) := hT
  have HX : Hid (L[k]? = some x) := hk
  have hkz : (k : Int) < (n : Int) := by omega
  clear h hr hT hok hF hcl hk K0
  go_enter Tryz.func8, Tryz.ntmps8
  go_upto_region 2 with fail
  generalize hw1 : (w.alloc (.cells #[.slice a0 n0 c0, .slice a1 n1 c1, .slice (some ⟨b, o, none⟩) n c] 26)).alloc (.cells #[.int .i64 x.kd, .int .i64 x.fr, .slice ta tn tc, .int .i64 x.ph, .int .i64 x.pe] 39) = w1 at *
  clear hw1 d0 d1 d2 d3 d4
  obtain ⟨m0, m1, m2, m3, m4, m5⟩ := HM.out w1 (Kept.refl No w1)
  have cP := parts_zs (a0 := a0) (n0 := n0) (c0 := c0) (k := k) w1 (HR.out w1 m5) HX.out
  obtain ⟨PV, hPV⟩ : ∃ v, partV ps x.fr = v := ⟨_, rfl⟩
  have HPV : Hid (partV ps x.fr = PV) := hPV
  rw [hPV] at cP
  clear hPV
  go_upto_region 3 with (go_at_call 9; refine cP.mono ?_; rintro e w2 ⟨va, vn, vc, rfl, hz, k2⟩; have HZ : Hid (Zs w2 (fun _ => True) va vn vc (partsL ps x.dst) ∧ Kept No w1 w2) := ⟨hz, k2⟩; clear hz k2 cP m0 m1 m2 m3 m4 m5)
  obtain ⟨m0, m1, m2, m3, m4, m5⟩ := HM.out w2 HZ.out.2
  have cO := owner_any (a0 := a0) (n0 := n0) (c0 := c0) (a2 := some ⟨b, o, none⟩) (n := n) (c := c) x.fr w2 (HR.out w2 m5).qs
  rw [HPV.out] at cO
  go_upto_region 5 with (first
    | (go_at_call 21; refine cO.mono ?_; rintro e w3 ⟨rfl, k3⟩; have HK3 : Hid (Kept No w1 w3 ∧ Zs w3 (fun _ => True) va vn vc (partsL ps x.dst)) := ⟨HZ.out.2.trans k3 (fun _ h => h.elim), HZ.out.1.on k3⟩; have cR := rising_any w3 HK3.out.2 (partsL_rises ps x.dst); clear k3 cO)
    | (go_at_call 7; refine cR.mono ?_; rintro e w4 ⟨rfl, k4⟩; have HK4 : Hid (Kept No w1 w4 ∧ Zs w4 (fun _ => True) va vn vc (partsL ps x.dst)) := ⟨HK3.out.1.trans k4 (fun _ h => h.elim), HK3.out.2.on k4⟩; clear k4 cR HK3))
  have cR4 : True := trivial
  clear m0 m1 m2 m3 m4 m5
  obtain ⟨m0, m1, m2, m3, m4, m5⟩ := HM.out w4 HK4.out.1
  go_cut [48] (fun t wx => t = .bool false ∧ Kept No w1 wx ∧ Zs wx (fun _ => True) va vn vc (partsL ps x.dst))
  case first =>
    by_cases hpv : PV > 0
    · have cO2 := outlet_zs (a0 := a0) (n0 := n0) (c0 := c0) PV (HR.out w4 m5)
      have HE : Hid ((numsL (fun c => ownB ps PV c.fr) L).any (fun y => y == (k : Int) + 1) = true) := by
        show _ = true
        rw [numsL_mem HX.out]
        have := own_self (ps := ps) (t := x.fr) (by rw [HPV.out]; exact hpv)
        rw [HPV.out] at this
        exact this
      go_wp2_with (first
        | (go_at_call 5; refine cO2.mono ?_; rintro e w5 ⟨oa, on, oc, rfl, hz, k5⟩; have HK5 : Hid (Kept No w1 w5 ∧ Zs w5 (fun _ => True) va vn vc (partsL ps x.dst)) := ⟨HK4.out.1.trans k5 (fun _ h => h.elim), HK4.out.2.on k5⟩; have cI := in_any ((k : Int) + 1) w5 hz; rw [HE.out] at cI; clear hz k5 cO2)
        | (go_at_call 10; refine cI.mono ?_; rintro e w6 ⟨rfl, k6⟩; have HK6 : Hid (Kept No w1 w6 ∧ Zs w6 (fun _ => True) va vn vc (partsL ps x.dst)) := ⟨HK5.out.1.trans k6 (fun _ h => h.elim), HK5.out.2.on k6⟩; clear k6 cI HK5))
      go_meet
      exact ⟨rfl, HK6.out.1, HK6.out.2⟩
    · go_wp2
      go_meet
      exact ⟨rfl, HK4.out.1, HK4.out.2⟩
  case rest =>
  rename World => w7
  obtain ⟨rfl, hk7, hz7⟩ := hcut
  have H7 : Hid (Kept No w1 w7 ∧ Zs w7 (fun _ => True) va vn vc (partsL ps x.dst)) := ⟨hk7, hz7⟩
  clear hk7 hz7 m0 m1 m2 m3 m4 m5 HK4
  obtain ⟨m0, m1, m2, m3, m4, m5⟩ := HM.out w7 H7.out.1
  go_wp2
  go_loopw [9] (fun i wr => ∃ j : Nat, j ≤ tn ∧ i = .int .i64 j ∧ Kept No w7 wr) (fun i _ => tn - (intOf i).toNat)
  case atStart => exact ⟨0, by omega, rfl, Kept.refl _ _⟩
  case round =>
    obtain ⟨j, hj, rfl, K⟩ := hrel
    have HKR : Hid (Kept No w1 wr ∧ Zs wr (fun _ => True) va vn vc (partsL ps x.dst) ∧ Kept No w7 wr) := ⟨H7.out.1.trans K (fun _ h => h.elim), H7.out.2.on K, K⟩
    clear m0 m1 m2 m3 m4 m5 K
    obtain ⟨m0, m1, m2, m3, m4, m5⟩ := HM.out wr HKR.out.1
    by_cases hlt : j < tn
    · have hjz : (j : Int) < (tn : Int) := by omega
      have hjl : j < x.dst.length := by omega
      have hx : x.dst[j]? = some x.dst[j] := List.getElem?_eq_getElem hjl
      obtain ⟨tb, tof, cs, rfl, hF, hcl, hr, rfl, hI⟩ := HT.out.at' j _ hx
      have e0 := m5.cell (hr 0 _ rfl) (fun h => h)
      rw [Nat.mul_one, Nat.add_zero] at e0
      have HJ : Hid (x.dst[j] ∈ x.dst) := List.getElem_mem hjl
      obtain ⟨z, hz⟩ : ∃ z, x.dst[j] = z := ⟨_, rfl⟩
      rw [hz] at e0 HJ
      obtain ⟨P, hP⟩ : ∃ P, partV ps z = P := ⟨_, rfl⟩
      have HP : Hid (partV ps z = P) := hP
      have HRW : Hid (∀ W, Kept No wr W → Calls Tryz.prog 21 #[.agg #[.slice a0 n0 c0, .slice a1 n1 c1, .slice (some ⟨b, o, none⟩) n c], .int .i64 z] W fun e w' => e = .returned (.int .i64 P) ∧ Kept No W w') := fun W q => by
        rw [← hP]
        exact owner_any z W (HR.out W ((HM.out wr HKR.out.1).2.2.2.2.2.trans q (fun _ h => h.elim))).qs
      have HC : Hid (∀ W, Kept No wr W → W.cell? ⟨w.heap.size, 0, none⟩ = some (.slice a0 n0 c0) ∧ W.cell? ⟨w.heap.size, 1, none⟩ = some (.slice a1 n1 c1) ∧ W.cell? ⟨w.heap.size, 2, none⟩ = some (.slice (some ⟨b, o, none⟩) n c) ∧ W.cell? ⟨w.heap.size + 1, 2, none⟩ = some (.slice (some ⟨tb, tof, none⟩) tn tc) ∧ W.cell? ⟨tb, tof + j, none⟩ = some (.int .i64 z)) := fun W q => ⟨q.cell m0 (fun h => h), q.cell m1 (fun h => h), q.cell m2 (fun h => h), q.cell m4 (fun h => h), q.cell e0 (fun h => h)⟩
      clear hr hI hx hz hP hF hcl
      go_upto_region 10 with fail
      refine Ck.wp_region_kept wr (by kernel_rfl) (by kernel_rfl) (Kept.refl No wr) ?_
      refine BigFrame.wpQuiet_want rfl (fun K hK => ?_)
      refine Ck.quiet_val' (fun w5 hw5 => Ck.er_ld _ _ rfl _ _ rfl (ld_img (HC.out w5 hw5).1 (HC.out w5 hw5).2.1 (HC.out w5 hw5).2.2.1)) ?_
      refine hK _ ?_
      clear hK K
      simp only [Act.put, List.setIfInBounds_toArray, List.set_cons_zero, List.set_cons_succ]
      refine BigFrame.wpQuiet_want rfl (fun K hK => ?_)
      refine Ck.quiet_val' (fun w5 hw5 => er_fCh2 _ rfl (w.heap.size + 1) rfl) ?_
      refine hK _ ?_
      clear hK K
      simp only [Act.put, List.setIfInBounds_toArray, List.set_cons_zero, List.set_cons_succ]
      refine BigFrame.wpQuiet_want rfl (fun K hK => ?_)
      refine Ck.quiet_val' (fun w5 hw5 => Ck.er_ld _ _ rfl _ _ rfl (ld_sl (HC.out w5 hw5).2.2.2.1)) ?_
      refine hK _ ?_
      clear hK K
      simp only [Act.put, List.setIfInBounds_toArray, List.set_cons_zero, List.set_cons_succ]
      refine BigFrame.wpQuiet_want rfl (fun K hK => ?_)
      refine Ck.quiet_val' (fun w5 hw5 => Ck.er_mv _ rfl (.int .i64 (j : Int)) rfl) ?_
      refine hK _ ?_
      clear hK K
      simp only [Act.put, List.setIfInBounds_toArray, List.set_cons_zero, List.set_cons_succ]
      refine BigFrame.wpQuiet_want rfl (fun K hK => ?_)
      refine Ck.quiet_val' (fun w5 hw5 => er_idxI _ _ rfl tb tof tn tc j hlt (by omega) rfl rfl) ?_
      refine hK _ ?_
      clear hK K
      simp only [Act.put, List.setIfInBounds_toArray, List.set_cons_zero, List.set_cons_succ]
      refine BigFrame.wpQuiet_want rfl (fun K hK => ?_)
      refine Ck.quiet_val' (fun w5 hw5 => Ck.er_ld _ _ rfl _ _ rfl (ld_i (HC.out w5 hw5).2.2.2.2)) ?_
      refine hK _ ?_
      clear hK K
      simp only [Act.put, List.setIfInBounds_toArray, List.set_cons_zero, List.set_cons_succ]
      refine BigFrame.wpQuiet_want rfl (fun K hK => ?_)
      refine Ck.quiet_call' (f := 21) (args := #[.agg #[.slice a0 n0 c0, .slice a1 n1 c1, .slice (some ⟨b, o, none⟩) n c], .int .i64 z]) (v := .int .i64 P) (fun w5 => ec_own _ _ _ _ rfl (.agg #[.slice a0 n0 c0, .slice a1 n1 c1, .slice (some ⟨b, o, none⟩) n c]) (.int .i64 z) rfl rfl) (fun w5 hw5 => (HRW.out w5 hw5).mono (by rintro e w6 ⟨rfl, k6⟩; exact ⟨rfl, hw5.trans k6 (fun _ h => h.elim)⟩)) ?_
      refine hK _ ?_
      clear hK K
      simp only [Act.put, List.setIfInBounds_toArray, List.set_cons_zero, List.set_cons_succ]
      refine BigFrame.wpQuiet_want rfl (fun K hK => ?_)
      refine Ck.quiet_val' (fun w5 hw5 => Ck.er_as _ rfl (.int .i64 P) rfl) ?_
      refine hK _ ?_
      clear hK K
      simp only [Act.put, List.setIfInBounds_toArray, List.set_cons_zero, List.set_cons_succ]
      refine wpQuiet_nil ?_
      intro w8 k8
      have HK8 : Hid (Kept No w1 w8 ∧ Zs w8 (fun _ => True) va vn vc (partsL ps x.dst) ∧ Kept No w7 w8) := ⟨HKR.out.1.trans k8 (fun _ h => h.elim), HKR.out.2.1.on k8, HKR.out.2.2.trans k8 (fun _ h => h.elim)⟩
      have HE1 : Hid ((partsL ps x.dst).any (fun y => y == P) = true) := by
        show _ = true
        rw [partsL_any, List.any_eq_true]
        have hz' := HJ.out
        refine ⟨P, ?_, by simp⟩
        unfold toL
        rw [if_neg (by have := List.length_pos_of_mem hz'; omega), List.mem_map]
        exact ⟨z, hz', HP.out⟩
      clear k8 m0 m1 m2 m3 m4 m5 e0 HRW HC
      have cI1 := in_any P w8 HK8.out.2.1
      rw [HE1.out] at cI1
      obtain ⟨m0, m1, m2, m3, m4, m5⟩ := HM.out w8 HK8.out.1
      by_cases hp : P > 0
      · have HE2 : Hid ((numsL (fun c => c.dst.any (ownB ps P)) L).any (fun y => y == (k : Int) + 1) = true) := by
          show _ = true
          rw [numsL_mem HX.out, List.any_eq_true]
          refine ⟨z, HJ.out, ?_⟩
          have := own_self (ps := ps) (t := z) (by rw [HP.out]; exact hp)
          rw [HP.out] at this
          exact this
        go_wp2_with (first
          | (go_at_call 10; refine cI1.mono ?_; rintro e w9 ⟨rfl, k9⟩; have HK9 : Hid (Kept No w1 w9 ∧ Zs w9 (fun _ => True) va vn vc (partsL ps x.dst) ∧ Kept No w7 w9) := ⟨HK8.out.1.trans k9 (fun _ h => h.elim), HK8.out.2.1.on k9, HK8.out.2.2.trans k9 (fun _ h => h.elim)⟩; obtain ⟨q0, q1, q2, q3, q4, q5⟩ := HM.out w9 HK9.out.1; have cL := inlet_zs (a0 := a0) (n0 := n0) (c0 := c0) P (HR.out w9 q5); clear k9 cI1 q3 q4 q5)
          | (go_at_call 6; refine cL.mono ?_; rintro e w10 ⟨oa, on, oc, rfl, hz, k10⟩; have HK10 : Hid (Kept No w7 w10) := HK9.out.2.2.trans k10 (fun _ h => h.elim); have cI2 := in_any ((k : Int) + 1) w10 hz; rw [HE2.out] at cI2; clear hz k10 cL)
          | (go_at_call 10; refine cI2.mono ?_; rintro e w11 ⟨rfl, k11⟩; have HK11 : Hid (Kept No w7 w11) := HK10.out.trans k11 (fun _ h => h.elim); clear k11 cI2))
        go_roundw
        case rel => exact ⟨j + 1, by omega, by go_num, HK11.out⟩
        case measure => simp [intOf]; omega
      · go_wp2_with (go_at_call 10; refine cI1.mono ?_; rintro e w9 ⟨rfl, k9⟩; have HK9 : Hid (Kept No w7 w9) := HK8.out.2.2.trans k9 (fun _ h => h.elim); clear k9 cI1)
        go_roundw
        case rel => exact ⟨j + 1, by omega, by go_num, HK9.out⟩
        case measure => simp [intOf]; omega
    · have hjn : ¬ (j : Int) < (tn : Int) := by omega
      by_cases htn : (tn : Int) > 0
      · have HF : Hid (Kept No w wr) := m5
        go_wp2
        go_ret
        exact ⟨rfl, HF.out⟩
      · have hd : x.dst = [] := List.eq_nil_of_length_eq_zero (by omega)
        have HF : Hid (Kept No w wr) := m5
        have HS : Hid (∀ W, Kept No wr W → Calls Tryz.prog 16 #[.slice va vn vc, .slice (some ⟨W.heap.size, 0, none⟩) 1 1] (W.alloc (.cells #[.int .i64 0] 3)) fun e w' => e = .returned (.bool true) ∧ Kept No (W.alloc (.cells #[.int .i64 0] 3)) w') := fun W q => by
          have z1 := HKR.out.2.1.on (q.alloc (.cells #[.int .i64 0] 3))
          have z2 : Zs (W.alloc (.cells #[.int .i64 0] 3)) (fun _ => True) (some ⟨W.heap.size, 0, none⟩) 1 1 [0] := ⟨rfl, by omega, by omega, fun h => (by cases h), fun i hi => ⟨W.heap.size, 0, rfl, trivial, by
            obtain rfl : i = 0 := by omega
            exact one (alloc_new W _)⟩⟩
          have h := sameI_any (W.alloc (.cells #[.int .i64 0] 3)) z1 z2
          rw [hd, partsL_nil] at h
          have e : decide (([0] : List Int) = [0]) = true := by decide
          rw [e] at h
          exact h
        have cS := HS.out wr (Kept.refl No wr)
        have HFA : Hid (Kept No w (wr.alloc (.cells #[.int .i64 0] 3))) := HF.out.alloc _
        clear hd
        go_wp2_with (go_at_call 16; refine cS.mono ?_; rintro e w9 ⟨rfl, k9⟩)
        go_ret
        exact ⟨rfl, HFA.out.trans k9 (fun _ h => h.elim)⟩
end Go.Proofs.YtfjaajjljmbmbaaGreatDoor
