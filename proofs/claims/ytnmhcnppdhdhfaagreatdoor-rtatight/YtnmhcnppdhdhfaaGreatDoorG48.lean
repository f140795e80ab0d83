/-
  One text: VLs, VLt.
-/
import Derived.Test.YtnmhcnppdhdhfaaGreatDoorHVRn
import Derived.Test.YtnmhcnppdhdhfaaGreatDoorG47
import Derived.Test.YtnmhcnppdhdhfaaGreatDoorHYCopy
import Derived.Test.YtnmhcnppdhdhfaaGreatDoorG36
namespace Go.Proofs.YtnmhcnppdhdhfaaGreatDoor
open Go.RowKit Plain Rp
set_option linter.unusedVariables false
set_option linter.unusedSimpArgs false
set_option maxRecDepth 100000

theorem hn_mono {w W : World} (k : Kept No w W) : ∀ g, Hn w g → Hn W g := fun g h => Nat.lt_of_lt_of_le h k.size
theorem img_hn {w W : World} {a0 a1 a2 : Option Addr} {n0 c0 n1 c1 n2 c2 : Nat} {x : Im} (h : Img w (Hn w) a0 n0 c0 a1 n1 c1 a2 n2 c2 x) (k : Kept No w W) : Img W (Hn W) a0 n0 c0 a1 n1 c1 a2 n2 c2 x := by
  have h2 := h.kept k (fun _ _ h => h)
  exact ⟨h2.ps.mono (hn_mono k) (mPn _ _ _ (hn_mono k)), h2.qs.mono (hn_mono k) (fun _ _ h => h), h2.cs.mono (hn_mono k) (mCh _ _ _ (hn_mono k))⟩

theorem ws_bd {o : Nat → Bool} {m n s : Nat} {xs : List Prc} {d : Array Wr} {v : Nat → Int} (h : Ply o m n s xs d) (h1 : ∀ j, j < s → v (plc d j) = ((wrst (lv o (Td d) (Cd d) j) (fun _ => Cd d j) (Td d j) (2 * m) : Nat) : Int)) (h2 : ∀ l, s ≤ l → l < n → v (plc d l) = -1) : ∀ i, i < n → -1 ≤ v i ∧ v i ≤ 2199023255552 := by
  intro i hi
  obtain ⟨l, hl, rfl⟩ := h.sur i hi
  by_cases hs : l < s
  · rw [h1 l hs]
    have := (h.tight hs).2.2
    have e := h.T l hl
    have := (h.pe _ (h.lt l hl)).2.1
    omega
  · rw [h2 l (by omega) hl]; omega
set_option maxHeartbeats 4000000 in
/-- a run keeps to the play's answer -/
theorem run_safe {F F2 F3 : Nat → Prop} {a : Option Addr} {n c : Nat} {xs : List Prc} {ta : Option Addr} {tn tc : Nat} {R : List (Nat × Nat)} {b : Option Addr} {l dd : Nat} {zs : List Int} {gl cw m s : Nat} {d : Array Wr} (fo : Nat → Nat) (p N : Nat) (v : Nat → Int) (w : World)
    (hP : Ls 6 elPrc w F a n c xs) (hR : Tn w F2 ta tn tc R) (hTi : Rule.Tile fo 0 N R) (hZ : Ls 1 elI w F3 b l dd zs) (hW : RdN w gl n v) (hcw : n ≤ cw) (hcw2 : cw ≤ 9223372036854775807) (hn : n ≤ 70000) (hN : N ≤ 20000)
    (h : Ply (occB fo p) m n s xs d) (h1 : ∀ j, j < s → v (plc d j) = ((wrst (lv (occB fo p) (Td d) (Cd d) j) (fun _ => Cd d j) (Td d j) (2 * m) : Nat) : Int)) (h2 : ∀ l, s ≤ l → l < n → v (plc d l) = -1) :
    Calls Tryz.prog 10 #[.slice a n c, .int .i64 (p : Int), .slice ta tn tc, .slice b l dd, .slice (some ⟨gl, 0, none⟩) n cw] w fun e w' => e = .returned (.bool true) ∧ Kept No w w' := by
  have hc := run_any fo p N (Td d) (takC zs xs d) s (plc d) v w hP hR hTi hZ hW hcw hcw2 hn hN h.pe (fun i hi => by have := ws_bd h h1 h2 i hi; omega) (h.sch zs v (fun j hj => by rw [h1 j hj]; omega) h2)
  refine hc.mono ?_
  rintro e w' ⟨b', rfl, k, _, hf⟩
  cases b' with
  | true => exact ⟨rfl, k⟩
  | false =>
    exfalso
    obtain ⟨t, ht, j, hj, he, hlt⟩ := hf rfl
    have := h.resp zs hj he
    rw [h1 j hj] at hlt
    omega

set_option maxHeartbeats 16000000 in
theorem safe_out {a0 a1 a2 : Option Addr} {n0 c0 n1 c1 n2 c2 : Nat} {x : Im} (w : World) (hg : Gl w) (hO : Lg.Ops w) (p t : Int) (v : Value) (ht : t < 0 ∨ 20000 < t) :
    Calls Tryz.prog 3 #[.agg #[.slice a0 n0 c0, .slice a1 n1 c1, .slice a2 n2 c2], .int .i64 p, v, .int .i64 t] w fun e w' => e = .returned (.bool true) ∧ Kept No w w' := by
  obtain ⟨K0, HM0⟩ := imb w (.slice a0 n0 c0) (.slice a1 n1 c1) (.slice a2 n2 c2)
  have HK0 : Hid (Kept No w (w.alloc (.cells #[.slice a0 n0 c0, .slice a1 n1 c1, .slice a2 n2 c2] 26))) := K0
  have cK := known_yes _ (hg.kept K0) (ops_of hO K0)
  clear HM0 K0 hg hO
  by_cases h1 : t < 0
  · have g1 : decide (t < 0) = true := by simpa using h1
    go_enter Tryz.func3, Tryz.ntmps3
    go_wp2_with (go_at_call 5; refine cK.mono ?_; clear cK; rintro e w3 ⟨rfl, k3⟩; have K3 : Hid (Kept No w w3) := HK0.out.trans k3 (fun _ h => h.elim); clear k3)
    go_ret
    exact ⟨rfl, K3.out⟩
  · have g1 : decide (t < 0) = false := by simpa using h1
    have h2 : 20000 < t := by omega
    have g2 : decide (20000 < t) = true := by simpa using h2
    go_enter Tryz.func3, Tryz.ntmps3
    go_wp2_with (go_at_call 5; refine cK.mono ?_; clear cK; rintro e w3 ⟨rfl, k3⟩; have K3 : Hid (Kept No w w3) := HK0.out.trans k3 (fun _ h => h.elim); clear k3)
    go_ret
    exact ⟨rfl, K3.out⟩
set_option maxHeartbeats 16000000 in
theorem safe_err {a0 a1 a2 : Option Addr} {n0 c0 n1 c1 n2 c2 : Nat} {x : Im} (w : World) (hg : Gl w) (hO : Lg.Ops w) (h : Img w (Hn w) a0 n0 c0 a1 n1 c1 a2 n2 c2 x) (hS : szIm x) (p t : Int) (v : Value) (ht0 : ¬ t < 0) (ht1 : ¬ 20000 < t) (he : woE x p ≠ 0) :
    Calls Tryz.prog 3 #[.agg #[.slice a0 n0 c0, .slice a1 n1 c1, .slice a2 n2 c2], .int .i64 p, v, .int .i64 t] w fun e w' => e = .returned (.bool true) ∧ Kept No w w' := by
  obtain ⟨K0, HM0⟩ := imb w (.slice a0 n0 c0) (.slice a1 n1 c1) (.slice a2 n2 c2)
  obtain ⟨m0, m1, m2, _⟩ := HM0 _ (Kept.refl _ _)
  have HK0 : Hid (Kept No w (w.alloc (.cells #[.slice a0 n0 c0, .slice a1 n1 c1, .slice a2 n2 c2] 26))) := K0
  have cC := copy_apart a0 n0 c0 a1 n1 c1 a2 n2 c2 x _ (img_hn h K0) hS
  have HG : Hid (Gl w ∧ Lg.Ops w) := ⟨hg, hO⟩
  have HE : Hid (woE x p ≠ 0) := he
  have hz : ¬ woE x p = 0 := he
  have g1 : decide (t < 0) = false := by simpa using ht0
  have g2 : decide (20000 < t) = false := by simpa using ht1
  clear h hS hg hO HM0 K0 he
  obtain ⟨er, her⟩ : ∃ er, er = woE x p := ⟨_, rfl⟩
  have HER : Hid (er = woE x p) := her
  rw [← her] at hz
  clear her
  go_enter Tryz.func3, Tryz.ntmps3
  go_upto_region 4 with (first
    | (go_at_call 7; refine cC.mono ?_; rintro e w1 ⟨b0, m0', d0, b1, m1', d1, b2, m2', d2, lo, T, rfl, hlo, hI, k1⟩; have HI : Hid (ImP w1 lo T w1.heap.size b0 m0' d0 b1 m1' d1 b2 m2' d2 x) := hI; have K1 : Hid (Kept No w w1) := HK0.out.trans k1 (fun _ h => h.elim); clear hlo hI k1)
    | (go_at_call 6; refine (worst_err p _ (HG.out.1.kept K1.out) (ops_of HG.out.2 K1.out) HI.out.img HE.out).mono ?_; rintro e w2 ⟨rfl, k2⟩; rw [← HER.out]; have K2 : Hid (Kept No w w2) := K1.out.trans k2 (fun _ h => h.elim); clear k2))
  clear cC HI
  go_wp2_with (go_at_call 5; refine (known_yes _ (HG.out.1.kept K2.out) (ops_of HG.out.2 K2.out)).mono ?_; rintro e w3 ⟨rfl, k3⟩; have K3 : Hid (Kept No w w3) := K2.out.trans k3 (fun _ h => h.elim); clear k3)
  go_ret
  exact ⟨rfl, K3.out⟩

/-- what is known of an image that the law plays -/
structure Pim (x : Im) (n0 q : Nat) : Prop where
  q1 : 1 ≤ q
  q2 : q ≤ n0
  ck : chkF x = none
  ft : rfitB (x.parts.getD (q - 1) dPn) = true
  lc : lcmB (zR (hyp (svs x.parts)) (x.parts.getD (q - 1) dPn).procs) ((x.parts.getD (q - 1) dPn).procs.length + 1) 1048576 = true
theorem pim_hj {x : Im} {n0 q : Nat} (h : Pim x n0 q) : hjB (x.parts.getD (q - 1) dPn).procs (x.parts.getD (q - 1) dPn).procs.length = true := by
  have := h.ft
  unfold rfitB at this
  simp only [Bool.and_eq_true] at this
  exact this.2.2
/-- what Worst tells, as the run wants it -/
theorem worst_ply {F : Nat → Prop} {a0 : Option Addr} {n0 c0 : Nat} {a1 : Option Addr} {n1 c1 : Nat} {a2 : Option Addr} {n2 c2 : Nat} {x : Im} {q : Nat} (hp : Pim x n0 q) (w : World) (hg : Gl w) (hO : Lg.Ops w) (h : Img w F a0 n0 c0 a1 n1 c1 a2 n2 c2 x) (hF : ∀ k, F k → k < w.heap.size) :
    Calls Tryz.prog 6 #[.agg #[.slice a0 n0 c0, .slice a1 n1 c1, .slice a2 n2 c2], .int .i64 (q : Int)] w fun e w' => ∃ (gl m s : Nat) (d : Array Wr) (v : Nat → Int), e = .returned (.tuple #[.slice (some ⟨gl, 0, none⟩) (x.parts.getD (q - 1) dPn).procs.length (x.parts.getD (q - 1) dPn).procs.length, .int .i64 0]) ∧ hyp (svs x.parts) ∣ m ∧ (∀ j, j < (x.parts.getD (q - 1) dPn).procs.length → ((x.parts.getD (q - 1) dPn).procs.getD j dPrc).pe.toNat ∣ m) ∧ Ply (occB (Rule.occ (sys (svs x.parts))) q) m (x.parts.getD (q - 1) dPn).procs.length s (x.parts.getD (q - 1) dPn).procs d ∧ (∀ j, j < s → v (plc d j) = ((wrst (lv (occB (Rule.occ (sys (svs x.parts))) q) (Td d) (Cd d) j) (fun _ => Cd d j) (Td d j) (2 * m) : Nat) : Int)) ∧ (∀ l, s ≤ l → l < (x.parts.getD (q - 1) dPn).procs.length → v (plc d l) = -1) ∧ Nm w' gl (x.parts.getD (q - 1) dPn).procs.length v ∧ w.heap.size ≤ gl ∧ Kept No w w' := by
  obtain ⟨m, m1, m2, mH, mT, hT, hw⟩ := worst_any q w hg hO h hF hp.ck hp.q1 hp.q2 hp.ft hp.lc
  have hlen := h.ps.len
  have ht : timF (svs x.parts) (svs x.parts).length = none := by rw [svs_len]; exact chk_tim hp.ck
  refine hw.mono ?_
  rintro e w' ⟨gl, g, s, d, f, W, w2, rfl, hP, hN, hgl, k⟩
  obtain ⟨p1, p2, p3⟩ := ply_of hP rfl (pim_hj hp) hT m1 (occ_again ht q mH m1) mT
  exact ⟨gl, m, s, d, wsF d f s, rfl, mH, mT, p1, p2, p3, hN, hgl, k⟩
theorem slots_few {f : Nat → Nat} {N : Nat} (hN : N ≤ 20000) : ¬ 65536 < (Rule.runsOf f 0 N).length := by
  have := (Rule.runsOf_tile f 0 N).len
  omega
/-- the slots of the law's servers -/
theorem runs_law {F : Nat → Prop} {a : Option Addr} {c n0 : Nat} {x : Im} (N : Nat) (w : World) (hg : Gl w) (hck : chkF x = none) (hsl : (svs x.parts).length = n0) (h : Sv w F a n0 c (svs x.parts)) (hF : ∀ k, F k → k < w.heap.size) (hN : N ≤ 20000) :
    Calls Tryz.prog 8 #[.slice a n0 c, .int .i64 0, .int .i64 (N : Int)] w fun e w' => ∃ ta tn tc, e = .returned (.tuple #[.slice ta tn tc, .int .i64 0]) ∧ Kept No w w' ∧ Tn w' (fun b => w.heap.size ≤ b) ta tn tc (Rule.runsOf (Rule.occ (sys (svs x.parts))) 0 N) := by
  have ht : timF (svs x.parts) (svs x.parts).length = none := by rw [svs_len]; exact chk_tim hck
  have hr := runs_yes (a := a) (c := c) (xs := svs x.parts) 0 N w hg (by rw [hsl]; exact h) hF ht (Nat.zero_le _) (by omega)
  rw [hsl, Nat.sub_zero] at hr
  refine hr.mono ?_
  rintro e w' ⟨k, ⟨v, hl, rfl, ho⟩ | ⟨hl, _⟩⟩
  · obtain ⟨ta, tn, tc, rfl, hT⟩ := ow_tn ho (by omega)
    exact ⟨ta, tn, tc, rfl, k, hT⟩
  · exact absurd hl (slots_few hN)
end Go.Proofs.YtnmhcnppdhdhfaaGreatDoor

namespace Go.Proofs.YtnmhcnppdhdhfaaGreatDoor
open Go.RowKit Plain Rp
set_option linter.unusedVariables false
set_option linter.unusedSimpArgs false
set_option maxRecDepth 100000

set_option maxHeartbeats 16000000 in
theorem safe_in {F3 : Nat → Prop} {a0 a1 a2 : Option Addr} {n0 c0 n1 c1 n2 c2 : Nat} {x : Im} {b : Option Addr} {l dd : Nat} {zs : List Int} (w : World) (hg : Gl w) (hO : Lg.Ops w) (h : Img w (Hn w) a0 n0 c0 a1 n1 c1 a2 n2 c2 x) (hS : szIm x) (hZ : Ls 1 elI w F3 b l dd zs) (q N : Nat) (hN : N ≤ 20000) (hp : Pim x n0 q) :
    Calls Tryz.prog 3 #[.agg #[.slice a0 n0 c0, .slice a1 n1 c1, .slice a2 n2 c2], .int .i64 (q : Int), .slice b l dd, .int .i64 (N : Int)] w fun e w' => e = .returned (.bool true) ∧ Kept No w w' := by
  obtain ⟨K0, HM0⟩ := imb w (.slice a0 n0 c0) (.slice a1 n1 c1) (.slice a2 n2 c2)
  obtain ⟨m0, m1, m2, _⟩ := HM0 _ (Kept.refl _ _)
  have HK0 : Hid (Kept No w (w.alloc (.cells #[.slice a0 n0 c0, .slice a1 n1 c1, .slice a2 n2 c2] 26))) := K0
  have HM : Hid (∀ W, Kept No (w.alloc (.cells #[.slice a0 n0 c0, .slice a1 n1 c1, .slice a2 n2 c2] 26)) W → W.cell? ⟨w.heap.size, 0, none⟩ = some (.slice a0 n0 c0) ∧ W.cell? ⟨w.heap.size, 1, none⟩ = some (.slice a1 n1 c1) ∧ W.cell? ⟨w.heap.size, 2, none⟩ = some (.slice a2 n2 c2) ∧ Kept No w W) := HM0
  have cC := copy_apart a0 n0 c0 a1 n1 c1 a2 n2 c2 x _ (img_hn h K0) hS
  have HG : Hid (Gl w ∧ Lg.Ops w) := ⟨hg, hO⟩
  have HPM := hid hp
  have hlen := h.ps.len
  have hnp := chk_np hp.ck (i := q - 1) (by have := hp.q1; have := hp.q2; omega)
  have hq1 := hp.q1
  have hq2 := hp.q2
  have hn32 : n0 ≤ 70000 := by
    have ht : timF (svs x.parts) n0 = none := by rw [← hlen]; exact chk_tim hp.ck
    have := (vd_of (xs := svs x.parts) (by rw [svs_len, hlen]; exact ht)).num
    rw [svs_len, hlen] at this; omega
  have HPS : Hid (∀ W, Kept No w W → Ls 21 elPn W (Hn w) a0 n0 c0 x.parts) := fun W k => h.ps.kept k (fun _ _ h => h) (elPn_kept k (fun _ _ h => h))
  have HZ : Hid (∀ W, Kept No w W → Ls 1 elI W F3 b l dd zs) := fun W k => hZ.kept k (fun _ _ h => h) (elI_kept k (fun _ _ h => h))
  obtain ⟨Q, hQ⟩ : ∃ Q, Q = q - 1 := ⟨_, rfl⟩
  have hx : x.parts[Q]? = some (x.parts.getD Q dPn) := by rw [List.getD, List.getElem?_eq_getElem (by omega)]; rfl
  obtain ⟨pb, po, cs, rfl, _, _, hr, hPn⟩ := h.ps.at' _ _ hx
  obtain ⟨b0, n0', k0, b1, n1', k1, b2, n2', k2, b3, n3, k3, b4, n4, k4, b5, n5, k5, he, _, _, hL, _⟩ := hPn.sl
  have c8 : w.cell? ⟨pb, po + Q * 21 + 8, none⟩ = some (.slice b2 n2' k2) := hr 8 _ (by rw [he]; rfl)
  have HC8 : Hid (∀ W, Kept No w W → W.cell? ⟨pb, po + Q * 21 + 8, none⟩ = some (.slice b2 n2' k2)) := fun W k => k.cell c8 (fun h => h)
  have HL : Hid (∀ W, Kept No w W → Ls 6 elPrc W (Hn w) b2 n2' k2 (x.parts.getD Q dPn).procs) := fun W k => hL.kept k (fun _ _ h => h) (elPrc_kept k (fun _ _ h => h))
  have hnl := hL.len
  have HQ : Hid (Q = q - 1) := hQ
  have hsl : (svs x.parts).length = n0 := by rw [svs_len, hlen]
  have HSL := hid hsl
  have HOK : Hid (∀ i, i < n0 → ((svs x.parts).getD i ⟨0, 0, 0, 0⟩).ok) := fun i hi => svs_ok h.ps i hi
  have hqQ : wrap64 ((q : Int) - 1) = (Q : Int) := by unfold wrap64; omega
  have hQ2 : (Q : Int) < (n0 : Int) := by omega
  have hqa : (q : Int) - 1 = (Q : Int) := by omega
  have g1 : decide ((N : Int) < 0) = false := by simp only [decide_eq_false_iff_not]; omega
  have g2 : decide (20000 < (N : Int)) = false := by simp only [decide_eq_false_iff_not]; omega
  have hN2 : (N : Int) ≤ 20000 := by omega
  have hWP := fun (W : World) (F : Nat → Prop) (b0 : Option Addr) (d0 : Nat) (b1 : Option Addr) (m1 d1 : Nat) (b2 : Option Addr) (m2 d2 : Nat) (k : Kept No w W) (hI : Img W F b0 n0 d0 b1 m1 d1 b2 m2 d2 x) (hF : ∀ k, F k → k < W.heap.size) => worst_ply hp W (hg.kept k) (ops_of hO k) hI hF
  rw [← hQ] at hWP hnp
  rw [hnl] at hWP
  have HWP := hid hWP
  have hnl2 := hnl
  rw [hnl] at hnp
  clear h hS hg hO hZ HM0 K0 hx hr hPn hL he hp hWP hQ c8 hnl
  go_enter Tryz.func3, Tryz.ntmps3
  go_upto_region 4 with (first
    | (go_at_call 7; refine cC.mono ?_; clear cC; rintro e w1 ⟨e0, u0, d0', e1, u1, d1', e2, u2, d2', lo, T, rfl, hlo, hI, k1⟩; have hm0 := hI.ps.len.symm.trans hlen; subst hm0; have HI : Hid (ImP w1 lo T w1.heap.size e0 u0 d0' e1 u1 d1' e2 u2 d2' x) := hI; have K1 := hid (HK0.out.trans k1 (fun _ h => h.elim)); have KB1 := hid k1; clear hlo hI k1)
    | (go_at_call 6; refine (HWP.out _ _ _ _ _ _ _ _ _ _ K1.out HI.out.img (fun k hk => hk.2)).mono ?_; rintro e w2 ⟨gl, m, s, d, v, rfl, hmH, hmT, hPl, hv1, hv2, hNm, hgl, k2⟩; have HPL := hid hPl; have HV1 := hid hv1; have HV2 := hid hv2; have HNM := hid hNm; have K2 := hid (K1.out.trans k2 (fun _ h => h.elim)); have KB2 := hid (KB1.out.trans k2 (fun _ h => h.elim)); clear hmH hmT hPl hv1 hv2 hNm hgl k2 HI))
  clear m0 m1 m2
  obtain ⟨m0, m1, m2, _⟩ := HM.out w2 KB2.out
  have cS := lservers_any (Hn w) _ _ _ (.slice a1 n1 c1) (.slice a2 n2 c2) x.parts w2 (HPS.out w2 K2.out) hn32
  go_upto_region 7 with (first
    | (go_at_call 9; refine cS.mono ?_; clear cS; rintro e w3 ⟨vs, rfl, hown, k3⟩; have hlt := hown.lt; obtain ⟨sa, sc, rfl, hsv⟩ := own_sv hown HSL.out HOK.out; have K3 := hid (K2.out.trans k3 (fun _ h => h.elim)); have KB3 := hid (KB2.out.trans k3 (fun _ h => h.elim)); have KC3 := hid k3; have cR := runs_law N w3 (HG.out.1.kept K3.out) HPM.out.ck HSL.out hsv (fun g hg => (hlt g hg).2) hN; clear hown k3 hlt hsv)
    | (go_at_call 8; refine cR.mono ?_; clear cR; rintro e w4 ⟨ta, tn, tc, rfl, k4, hTn⟩; have HTN := hid hTn; have K4 := hid (K3.out.trans k4 (fun _ h => h.elim)); have KC4 := hid (KC3.out.trans k4 (fun _ h => h.elim)); obtain ⟨z0, _, _, _⟩ := HM.out w4 (KB3.out.trans k4 (fun _ h => h.elim)); clear k4 hTn))
  clear m0 m1 m2
  have c8 := HC8.out w4 K4.out
  go_upto_region 8 with fail
  clear z0 c8
  have HRN : Hid (∀ W, Kept No w4 W → Calls Tryz.prog 10 #[.slice b2 n2' k2, .int .i64 (q : Int), .slice ta tn tc, .slice b l dd, .slice (some ⟨gl, 0, none⟩) n2' n2'] W fun e w' => e = .returned (.bool true) ∧ Kept No W w') := fun W kW => by
    have kk := K4.out.trans kW (fun _ h => h.elim)
    refine run_safe (Rule.occ (sys (svs x.parts))) q N v W (HL.out W kk) (HTN.out.kept kW (fun _ _ h => h)) (Rule.runsOf_tile _ 0 N) (HZ.out W kk) ?_ (Nat.le_refl _) (by omega) (by omega) hN HPL.out HV1.out HV2.out
    have k24 : Kept No w2 W := KC4.out.trans kW (fun _ h => h.elim)
    exact fun i hi => k24.cell (HNM.out.2 i hi) (fun h => h)
  go_wp2_with (first
    | (go_at_call 5; refine (known_yes _ (HG.out.1.kept K4.out) (ops_of HG.out.2 K4.out)).mono ?_; rintro e w5 ⟨rfl, k5⟩; have K5 := hid k5; clear k5)
    | (go_at_call 10; refine (HRN.out _ K5.out).mono ?_; rintro e w6 ⟨rfl, k6⟩; have K6 := hid ((K4.out.trans K5.out (fun _ h => h.elim)).trans k6 (fun _ h => h.elim)); clear k6))
  go_ret
  exact ⟨rfl, K6.out⟩
end Go.Proofs.YtnmhcnppdhdhfaaGreatDoor
