/-
  The law's walk: the way on.
-/
import Derived.Test.YtknobeiggmghoaaGreatDoorG48
namespace Go.Proofs.YtknobeiggmghoaaGreatDoor
open Go.RowKit Plain
set_option linter.unusedVariables false
set_option linter.unusedSimpArgs false
set_option maxRecDepth 100000

set_option maxHeartbeats 64000000 in
theorem grows_in {a0 a1 a2 : Option Addr} {n0 c0 n1 c1 n2 c2 : Nat} {x : Im} (w : World) (hg : Gl w) (hO : Lg.Ops w) (h : Img w (Hn w) a0 n0 c0 a1 n1 c1 a2 n2 c2 x) (hS : szIm x) (p : Int) (j : Nat) (more : Int) (he : woE x p = 0) (hj : j < (x.parts.getD (p.toNat - 1) dPn).procs.length) (hm0 : 0 ≤ more) (hm1 : more ≤ 1000) :
    Calls Tryz.prog 3 #[.agg #[.slice a0 n0 c0, .slice a1 n1 c1, .slice a2 n2 c2], .int .i64 p, .int .i64 j, .int .i64 more] w fun e w' => e = .returned (.bool true) ∧ Kept No w w' := by
  obtain ⟨q, rfl, hq1, hq2, hc, hf, hl⟩ := woE_zero he
  obtain ⟨K0, HM0⟩ := imb w (.slice a0 n0 c0) (.slice a1 n1 c1) (.slice a2 n2 c2)
  have HK0 : Hid (Kept No w (w.alloc (.cells #[.slice a0 n0 c0, .slice a1 n1 c1, .slice a2 n2 c2] 26))) := K0
  have HM : Hid (∀ W, Kept No (w.alloc (.cells #[.slice a0 n0 c0, .slice a1 n1 c1, .slice a2 n2 c2] 26)) W → W.cell? ⟨w.heap.size, 0, none⟩ = some (.slice a0 n0 c0) ∧ W.cell? ⟨w.heap.size, 1, none⟩ = some (.slice a1 n1 c1) ∧ W.cell? ⟨w.heap.size, 2, none⟩ = some (.slice a2 n2 c2) ∧ Kept No w W) := HM0
  obtain ⟨m0, m1, m2, _⟩ := HM0 _ (Kept.refl _ _)
  have hlen := h.ps.len
  have cC := copy_apart a0 n0 c0 a1 n1 c1 a2 n2 c2 x _ (img_hn h K0) hS
  have HG : Hid (Gl w ∧ Lg.Ops w) := ⟨hg, hO⟩
  have HP : Hid (chkF x = none ∧ rfitB (x.parts.getD (q - 1) dPn) = true ∧ lcmB (zR (hyp (svs x.parts)) (x.parts.getD (q - 1) dPn).procs) ((x.parts.getD (q - 1) dPn).procs.length + 1) 1048576 = true) := ⟨hc, hf, hl⟩
  have HW : Hid (∀ (W : World) (F : Nat → Prop) (b0 : Option Addr) (d0 : Nat) (b1 : Option Addr) (m1 d1 : Nat) (b2 : Option Addr) (m2 d2 : Nat), Kept No w W → Img W F b0 n0 d0 b1 m1 d1 b2 m2 d2 x → (∀ k, F k → k < W.heap.size) → ∃ m : Nat, 1 ≤ m ∧ m ≤ 1048576 ∧ hyp (svs x.parts) ∣ m ∧ (∀ j, j < (x.parts.getD (q - 1) dPn).procs.length → ((x.parts.getD (q - 1) dPn).procs.getD j dPrc).pe.toNat ∣ m) ∧ hasT (x.parts.getD (q - 1) dPn).procs ∧
    Calls Tryz.prog 4 #[.agg #[.slice b0 n0 d0, .slice b1 m1 d1, .slice b2 m2 d2], .int .i64 (q : Int)] W fun e w' => ∃ gl g s d f W' w2, e = .returned (.tuple #[.slice (some ⟨gl, 0, none⟩) (x.parts.getD (q - 1) dPn).procs.length (x.parts.getD (q - 1) dPn).procs.length, .int .i64 0]) ∧ Pyd (occB (Rule.occ (sys (svs x.parts))) q) (2 * m) (x.parts.getD (q - 1) dPn).procs.length (x.parts.getD (q - 1) dPn).procs W' w2 g s d f ∧ Nm w' gl (x.parts.getD (q - 1) dPn).procs.length (wsF d f s) ∧ W.heap.size ≤ gl ∧ Kept No W w') := fun W F b0 d0 b1 m1 d1 b2 m2 d2 k hI hF => worst_any q W (hg.kept k) (ops_of hO k) hI hF hc hq1 (by omega) hf hl
  have hnp := chk_np hc (i := q - 1) (by omega)
  rw [Int.toNat_natCast] at hj
  have HIT : Hid (∀ (W : World) (F : Nat → Prop) (b0 : Option Addr) (d0 : Nat) (b1 : Option Addr) (m1 d1 : Nat) (b2 : Option Addr) (m2 d2 : Nat), Kept No w W → Img W F b0 n0 d0 b1 m1 d1 b2 m2 d2 x → (∀ k, F k → k < W.heap.size) → ∃ m : Nat, 1 ≤ m ∧ m ≤ 1048576 ∧ hyp (svs x.parts) ∣ m ∧ (∀ j, j < (x.parts.getD (q - 1) dPn).procs.length → ((x.parts.getD (q - 1) dPn).procs.getD j dPrc).pe.toNat ∣ m) ∧ hasT (x.parts.getD (q - 1) dPn).procs ∧
    Calls Tryz.prog 6 #[.agg #[.slice b0 n0 d0, .slice b1 m1 d1, .slice b2 m2 d2], .int .i64 (q : Int)] W fun e w' => ∃ g s d f W' w2, Pyd (occB (Rule.occ (sys (svs x.parts))) q) (2 * m) (x.parts.getD (q - 1) dPn).procs.length (x.parts.getD (q - 1) dPn).procs W' w2 g s d f ∧ e = .returned (.tuple #[.bool (itB (wsF d f s) (x.parts.getD (q - 1) dPn).procs (x.parts.getD (q - 1) dPn).procs.length), .int .i64 0]) ∧ Kept No W w') := fun W F b0 d0 b1 m1 d1 b2 m2 d2 k hI hF => inTime_z q W (hg.kept k) (ops_of hO k) hI hF hc hq1 (by omega) hf hl
  obtain ⟨Q, hQ⟩ : ∃ Q, Q = q - 1 := ⟨_, rfl⟩
  have hQl : Q < x.parts.length := by omega
  have hx : x.parts[Q]? = some (x.parts.getD Q dPn) := by rw [List.getD, List.getElem?_eq_getElem hQl]; rfl
  rw [← hQ] at hj hnp HW HP HIT
  have HX : Hid (x.parts[Q]? = some (x.parts.getD Q dPn)) := hx
  have HIw : Hid (Img w (Hn w) a0 n0 c0 a1 n1 c1 a2 n2 c2 x ∧ szIm x) := ⟨h, hS⟩
  have hca := chk_ca HP.out.1 hQl hj
  clear h hS hg hO HM0 K0 he hc hf hl hx
  obtain ⟨n, hn⟩ : ∃ n, n = (x.parts.getD Q dPn).procs.length := ⟨_, rfl⟩
  rw [← hn] at hj hnp HW HIT
  have HNL : Hid (n = (x.parts.getD Q dPn).procs.length) := hn
  clear hn
  have hj2 : (j : Int) < (n : Int) := by omega
  have hj3 : ¬ (n : Int) ≤ (j : Int) := by omega
  have hmm0 : ¬ more < 0 := by omega
  have hmm1 : ¬ 1000 < more := by omega
  have HLN : Hid (x.parts.length = n0 ∧ Q = q - 1 ∧ Q < x.parts.length) := ⟨hlen, hQ, hQl⟩
  clear hlen hQ
  have hjb : hjB (x.parts.getD Q dPn).procs (x.parts.getD Q dPn).procs.length = true := by
    have hf := HP.out.2.1
    unfold rfitB at hf
    simp only [Bool.and_eq_true] at hf
    exact hf.2.2
  have ht : timF (svs x.parts) (svs x.parts).length = none := by rw [svs_len]; exact chk_tim HP.out.1
  have HJT : Hid (hjB (x.parts.getD Q dPn).procs (x.parts.getD Q dPn).procs.length = true ∧ timF (svs x.parts) (svs x.parts).length = none) := ⟨hjb, ht⟩
  clear hjb ht
  go_enter Tryz.func3, Tryz.ntmps3
  go_upto_region 2 with (first
    | (go_at_call 5; refine cC.mono ?_; rintro e w1 ⟨b0, m0', d0, b1, m1', d1, b2, m2', d2, lo, T, rfl, hlo, hI, k1⟩; have hm0 := hI.ps.len.symm.trans HLN.out.1; subst hm0; have HI : Hid (ImP w1 lo T w1.heap.size b0 m0' d0 b1 m1' d1 b2 m2' d2 x) := hI; have K1 : Hid (Kept No w w1) := HK0.out.trans k1 (fun _ h => h.elim); have KB1 : Hid (Kept No (w.alloc _) w1) := k1; clear hlo hI k1)
    | (obtain ⟨m, hm1, hm2, hm3, hm4, hm5, hw⟩ := HW.out _ _ _ _ _ _ _ _ _ _ K1.out HI.out.img (fun k hk => hk.2); go_at_call 4; refine hw.mono ?_; clear hw; rintro e w2 ⟨gl, g, s, d, f, W', w2', rfl, hPy, hNm, hgl, k2⟩; have HPy : Hid (Pyd (occB (Rule.occ (sys (svs x.parts))) q) (2 * m) n (x.parts.getD Q dPn).procs W' w2' g s d f) := hPy; have HNm : Hid (Nm w2 gl n (wsF d f s)) := hNm; have HMF : Hid (1 ≤ m ∧ m ≤ 1048576 ∧ hyp (svs x.parts) ∣ m ∧ (∀ j, j < n → ((x.parts.getD Q dPn).procs.getD j dPrc).pe.toNat ∣ m) ∧ hasT (x.parts.getD Q dPn).procs) := ⟨hm1, hm2, hm3, hm4, hm5⟩; have K2 : Hid (Kept No w w2) := K1.out.trans k2 (fun _ h => h.elim); have KB2 : Hid (Kept No (w.alloc _) w2) := KB1.out.trans k2 (fun _ h => h.elim); clear k2 hPy hNm hgl hm1 hm2 hm3 hm4 hm5))
  clear cC HI m0 m1 m2
  obtain ⟨m0, m1, m2, _⟩ := HM.out w2 KB2.out
  have cC := copy_apart _ _ _ _ _ _ _ _ _ x w2 (img_hn HIw.out.1 K2.out) HIw.out.2
  go_upto_region 3 with (first
    | (go_at_call 5; refine cC.mono ?_; rintro e w2a ⟨b0', m0'', d0', b1', m1'', d1', b2', m2'', d2', lo, T, rfl, hlo, hI, k1⟩; have hm0 := hI.ps.len.symm.trans HLN.out.1; subst hm0; have HI : Hid (ImP w2a lo T w2a.heap.size b0' m0'' d0' b1' m1'' d1' b2' m2'' d2' x) := hI; have K2a : Hid (Kept No w2 w2a) := k1; clear hlo hI k1)
    | (obtain ⟨mi, hm1, hm2, hm3, hm4, hm5, hw⟩ := HIT.out _ _ _ _ _ _ _ _ _ _ (K2.out.trans K2a.out (fun _ h => h.elim)) HI.out.img (fun k hk => hk.2); go_at_call 6; refine hw.mono ?_; clear hw; rintro e w2b ⟨gi, si, di, fi, Wi, w2i, hPi, rfl, k2⟩; have HIE : Hid (itB (wsF di fi si) (x.parts.getD Q dPn).procs n = itB (wsF d f s) (x.parts.getD Q dPn).procs n) := itB_congr n (fun i hi => (same_ws HNL.out.symm HJT.out.1 (fun j hj => by have := hm5 j (by have := HNL.out; omega); omega) HPy.out hPi HMF.out.1 hm1 (occ_again HJT.out.2 q HMF.out.2.2.1 HMF.out.1) (occ_again HJT.out.2 q hm3 hm1) HMF.out.2.2.2.1 hm4 hi).symm); obtain ⟨B, hB⟩ : ∃ B, B = itB (wsF di fi si) (x.parts.getD Q dPn).procs n := ⟨_, rfl⟩; rw [← hB]; have HB : Hid (B = itB (wsF d f s) (x.parts.getD Q dPn).procs n) := hB.trans HIE.out; clear hB; have K2b : Hid (Kept No w2 w2b) := K2a.out.trans k2 (fun _ h => h.elim); clear k2 hPi hm1 hm2 hm3 hm4 hm5 HIE))
  clear cC HI m0 m1 m2 HIT
  go_upto_region 7 with (go_at_call 7; refine (known_yes _ (HG.out.1.kept (K2.out.trans K2b.out (fun _ h => h.elim))) (ops_of HG.out.2 (K2.out.trans K2b.out (fun _ h => h.elim)))).mono ?_; rintro e w2c ⟨rfl, k3⟩; have K2c : Hid (Kept No w2 w2c) := K2b.out.trans k3 (fun _ h => h.elim); clear k3)
  obtain ⟨z0, z1, z2, _⟩ := HM.out w2c (KB2.out.trans K2c.out (fun _ h => h.elim))
  have KW2c : Hid (Kept No w w2c) := K2.out.trans K2c.out (fun _ h => h.elim)
  have cC := copy_apart _ _ _ _ _ _ _ _ _ x w2c (img_hn HIw.out.1 KW2c.out) HIw.out.2
  go_upto_region 8 with (go_at_call 5; refine cC.mono ?_; clear cC; rintro e w3 ⟨e0, u0, d0', e1, u1, d1', e2, u2, d2', lo', T', rfl, hlo, hI, k3⟩; have hm0 := hI.ps.len.symm.trans HLN.out.1; subst hm0; have HI : Hid (ImP w3 lo' T' w3.heap.size e0 u0 d0' e1 u1 d1' e2 u2 d2' x ∧ w2c.heap.size ≤ lo') := ⟨hI, hlo⟩; have K3 : Hid (Kept No w2c w3) := k3; clear hlo hI k3)
  clear z0 z1 z2
  have B4 : Hid (Bk (w3.alloc (.cells #[.slice e0 u0 d0', .slice e1 u1 d1', .slice e2 u2 d2'] 26)) w3.heap.size [.slice e0 u0 d0', .slice e1 u1 d1', .slice e2 u2 d2'] 26) := heap_alloc_new w3 _
  have K4 : Hid (Kept No w3 (w3.alloc (.cells #[.slice e0 u0 d0', .slice e1 u1 d1', .slice e2 u2 d2'] 26))) := (Kept.refl No w3).alloc _
  obtain ⟨yb, hyb⟩ : ∃ yb, yb = w3.heap.size := ⟨_, rfl⟩
  rw [← hyb] at B4 ⊢
  have HYB : Hid (yb = w3.heap.size) := hyb
  clear hyb
  generalize w3.alloc (.cells #[.slice e0 u0 d0', .slice e1 u1 d1', .slice e2 u2 d2'] 26) = w4 at *
  have hpos : 0 < (x.parts.getD Q dPn).procs.length := by rw [← HNL.out]; omega
  obtain ⟨b, o, g', of, mm, cc, rfl, hmm, hQ0⟩ := LsQ.of HI.out.1.ps HX.out hpos
  clear hpos
  rw [← HNL.out] at hmm
  subst hmm
  have hQ4 := hQ0.kept K4.out HI.out.1.le.2.1
  have HQ : Hid (LsQ w4 lo' T' b o u0 d0' Q g' of mm cc x.parts (x.parts.getD Q dPn)) := hQ4
  have HLE : Hid (lo' ≤ T' ∧ T' ≤ w3.heap.size ∧ w2c.heap.size ≤ lo') := ⟨HI.out.1.le.1, HI.out.1.le.2.1, HI.out.2⟩
  have HQS : Hid (Ls 6 elPo w4 (fun g => T' ≤ g ∧ g < w3.heap.size) e1 u1 d1' x.ports ∧ Ls 5 elCh w4 (fun g => T' ≤ g ∧ g < w3.heap.size) e2 u2 d2' x.chans) := ⟨HI.out.1.qs.kept K4.out (fun _ _ h => h) (elPo_kept K4.out (fun _ _ h => h)), HI.out.1.cs.kept K4.out (fun _ _ h => h) (elCh_kept K4.out (fun _ _ h => h))⟩
  clear hQ0 hQ4 HI
  have i0 := B4.out.cell (j := 0) rfl
  have h8 := HQ.out.c8
  rw [HLN.out.2.1] at h8
  have hcap := HQ.out.ls.cap
  have hmax := HQ.out.ls.max
  have hcp2 := HQ.out.pr.cap
  have hmx2 := HQ.out.pr.max
  have hq3 : q ≤ u0 := by have := HLN.out.1; omega
  go_upto_region 9 with fail
  clear h8
  obtain ⟨z, hz⟩ : ∃ z, z = (x.parts.getD Q dPn).procs.getD j dPrc := ⟨_, rfl⟩
  have hzz : (x.parts.getD Q dPn).procs[j]? = some z := by rw [hz]; exact getD_prc (by have := HNL.out; omega)
  rw [← hz] at hca
  have HZ : Hid (z = (x.parts.getD Q dPn).procs.getD j dPrc) := hz
  clear hz
  have hokz : okPrc z := by
    obtain ⟨_, _, _, _, _, _, _, _, ho⟩ := HQ.out.pr.at' j z hzz
    exact ho
  have q4 := HQ.out.cells hzz (f := 4) rfl
  have f4 := HQ.out.fz (of + j * 6 + 4)
  have hsum : wrap64 (z.ca + more) = z.ca + more := by rw [← w64i]; exact IntWalk.i64_in _ ⟨by omega, by omega⟩
  have hQ7 := HQ.out.set hzz (z' := caPr z (z.ca + more)) (f := 4) (v := .int .i64 (z.ca + more)) rfl (by decide) (by
    unfold okPrc at hokz ⊢
    exact ⟨hokz.1, hokz.2.1, hokz.2.2.1, hokz.2.2.2.1, by unfold I6; show _ ∧ _; simp only [caPr]; omega, trivial⟩)
  have KK7 : Hid (Kept (fun k => k = g') w4 (w4.setCell ⟨g', of + j * 6 + 4, none⟩ (.int .i64 (z.ca + more)))) := (Kept.refl (fun k => k = g') w4).setCell (p := ⟨g', of + j * 6 + 4, none⟩) (.inl rfl) _
  have HQ7 : Hid (LsQ (w4.setCell ⟨g', of + j * 6 + 4, none⟩ (.int .i64 (z.ca + more))) lo' T' b o u0 d0' Q g' of mm cc (x.parts.set Q (setPr (x.parts.getD Q dPn) j (caPr z (z.ca + more)))) (setPr (x.parts.getD Q dPn) j (caPr z (z.ca + more)))) := hQ7
  clear hQ7 hokz
  generalize hzc : z.ca = zc at *
  go_upto_region 10 with fail
  generalize w4.setCell ⟨g', of + j * 6 + 4, none⟩ (.int .i64 (zc + more)) = w7 at *
  clear q4 f4 hsum
  have hgy : g' ≠ yb := fun e => by have := HQ.out.rg; have := HLE.out; have := HYB.out; omega
  have B7 : Hid (Bk w7 yb [.slice (some ⟨b, o, none⟩) u0 d0', .slice e1 u1 d1', .slice e2 u2 d2'] 26) := B4.out.kept KK7.out (fun e => hgy e.symm)
  clear i0 hgy
  have HN7 : Hid (Nm w7 gl mm (wsF d f s)) := (HNm.out.kept ((K2c.out.trans K3.out (fun _ h => h.elim)).trans K4.out (fun _ h => h.elim)) (fun h => h)).kept KK7.out (fun e => by have := HNm.out.lt; have := HQ.out.rg; have := HLE.out; have := K2c.out.size; omega)
  have KW7 : Hid (Kept No w w7) := ((KW2c.out.trans K3.out (fun _ h => h.elim)).trans K4.out (fun _ h => h.elim)).trans KK7.out (fun k e => .inr (by have := KW2c.out.size; have := HQ.out.rg; have := HLE.out; omega))
  obtain ⟨Y, hY⟩ : ∃ Y, Y = caIm x Q j (zc + more) := ⟨_, rfl⟩
  have hYp : Y.parts = x.parts.set Q (setPr (x.parts.getD Q dPn) j (caPr z (zc + more))) := by rw [hY, HZ.out]; rfl
  have HYI : Hid (Img w7 (fun k => k < w7.heap.size) (some ⟨b, o, none⟩) u0 d0' e1 u1 d1' e2 u2 d2' Y) := by
    have s3 := K4.out.size
    have s4 := KK7.out.size
    have h1 := HQ7.out.ls.ls
    have h2 := HQS.out.1.kept KK7.out (fun k hk e => by have := HQ.out.rg; omega) (elPo_kept KK7.out (fun k hk e => by have := HQ.out.rg; omega))
    have h3 := HQS.out.2.kept KK7.out (fun k hk e => by have := HQ.out.rg; omega) (elCh_kept KK7.out (fun k hk e => by have := HQ.out.rg; omega))
    have hle := HLE.out
    refine ⟨?_, ?_, ?_⟩
    · rw [hYp]; exact h1.mono (fun k hk => by omega) (mPn _ _ _ (fun k hk => by omega))
    · rw [hY]; exact h2.mono (fun k hk => by omega) (fun _ _ h => h)
    · rw [hY]; exact h3.mono (fun k hk => by omega) (mCh _ _ _ (fun k hk => by omega))
  have hjn : j < (x.parts.getD Q dPn).procs.length := by have := HNL.out; omega
  have HPR : Hid (∀ i, i < mm → w7.cell? ⟨g', of + i * 6 + 3, none⟩ = some (.int .i64 ((x.parts.getD Q dPn).procs.getD i dPrc).li)) := fun i hi => by
    have hil : i < ((x.parts.getD Q dPn).procs.set j (caPr z (zc + more))).length := by rw [List.length_set, ← HNL.out]; exact hi
    have hc := HQ7.out.cells (j := i) (z := ((x.parts.getD Q dPn).procs.set j (caPr z (zc + more))).getD i dPrc) (by unfold setPr; exact getD_prc hil) (f := 3) rfl
    rw [hc]
    by_cases e : i = j
    · subst e
      have e2 : ((x.parts.getD Q dPn).procs.set i (caPr z (zc + more))).getD i dPrc = caPr z (zc + more) := by rw [List.getD, List.getElem?_set_self hjn]; rfl
      rw [e2, ← HZ.out]; rfl
    · have e2 : ((x.parts.getD Q dPn).procs.set j (caPr z (zc + more))).getD i dPrc = (x.parts.getD Q dPn).procs.getD i dPrc := by rw [List.getD, List.getElem?_set_ne (fun h => e h.symm)]; rfl
      rw [e2]
  have HY : Hid (Y = caIm x Q j (zc + more)) := hY
  clear hY hYp
  have y0 := B7.out.cell (j := 0) rfl
  have y1 := B7.out.cell (j := 1) rfl
  have y2 := B7.out.cell (j := 2) rfl
  clear hzz
  by_cases hE : woE Y q = 0
  · have hYl : Y.parts.length = x.parts.length := by rw [HY.out]; exact caIm_len
    have hYs : svs Y.parts = svs x.parts := by rw [HY.out]; exact caIm_svs
    have hYg : (Y.parts.getD Q dPn).procs = (x.parts.getD Q dPn).procs.set j (caPr ((x.parts.getD Q dPn).procs.getD j dPrc) (zc + more)) := by rw [HY.out, caIm_parts HLN.out.2.2]; rfl
    obtain ⟨q', hq', _, _, hcY, hfY, hlY⟩ := woE_zero hE
    obtain rfl : q' = q := by omega
    obtain ⟨m', hm1, hm2, hm3, hm4, hm5, hw⟩ := worst_any q' w7 (HG.out.1.kept KW7.out) (ops_of HG.out.2 KW7.out) HYI.out (fun k hk => hk) hcY hq1 hq3 hfY hlY
    rw [← HLN.out.2.1] at hm4 hm5 hw
    rw [hYs] at hm3 hw
    rw [hYg] at hm4 hm5 hw
    have hne : ∀ a, a ≠ j → ((x.parts.getD Q dPn).procs.set j (caPr ((x.parts.getD Q dPn).procs.getD j dPrc) (zc + more))).getD a dPrc = (x.parts.getD Q dPn).procs.getD a dPrc := fun a ha => by
      rw [List.getD, List.getElem?_set_ne (fun e => ha e.symm)]; rfl
    have hself : ((x.parts.getD Q dPn).procs.set j (caPr ((x.parts.getD Q dPn).procs.getD j dPrc) (zc + more))).getD j dPrc = caPr ((x.parts.getD Q dPn).procs.getD j dPrc) (zc + more) := by rw [List.getD, List.getElem?_set_self hjn]; rfl
    have hpr : ∀ i, prs ((x.parts.getD Q dPn).procs.set j (caPr ((x.parts.getD Q dPn).procs.getD j dPrc) (zc + more))) i = prs (x.parts.getD Q dPn).procs i := fun i => by
      by_cases e : i = j
      · subst e; unfold prs; rw [hself]; rfl
      · unfold prs; rw [hne i e]
    have hpe : ∀ i, (((x.parts.getD Q dPn).procs.set j (caPr ((x.parts.getD Q dPn).procs.getD j dPrc) (zc + more))).getD i dPrc).pe = ((x.parts.getD Q dPn).procs.getD i dPrc).pe := fun i => by
      by_cases e : i = j
      · subst e; rw [hself]; rfl
      · rw [hne i e]
    have hcc : ∀ i, ((x.parts.getD Q dPn).procs.getD i dPrc).ca.toNat ≤ (((x.parts.getD Q dPn).procs.set j (caPr ((x.parts.getD Q dPn).procs.getD j dPrc) (zc + more))).getD i dPrc).ca.toNat := fun i => by
      by_cases e : i = j
      · subst e
        rw [hself]
        show ((x.parts.getD Q dPn).procs.getD i dPrc).ca.toNat ≤ (zc + more).toNat
        rw [← HZ.out, hzc]
        omega
      · rw [hne i e]; exact Nat.le_refl _
    have hYn : ((x.parts.getD Q dPn).procs.set j (caPr ((x.parts.getD Q dPn).procs.getD j dPrc) (zc + more))).length = mm := by rw [List.length_set]; exact HNL.out.symm
    rw [hYn] at hm4 hw
    have HSM : Hid (∀ (g2 s2 : Nat) (dd2 : Array Wr) (f2 : Nat → Wr) (W2 w2'' : World), Pyd (occB (Rule.occ (sys (svs x.parts))) q') (2 * m') mm ((x.parts.getD Q dPn).procs.set j (caPr ((x.parts.getD Q dPn).procs.getD j dPrc) (zc + more))) W2 w2'' g2 s2 dd2 f2 → ∀ i, i < mm → wsF dd2 f2 s2 i ≠ -1 → wsF d f s i ≠ -1 ∧ wsF d f s i ≤ wsF dd2 f2 s2 i) := fun g2 s2 dd2 f2 W2 w2'' hP2 i hi hwi => by
      obtain ⟨a1, a2, a3, a4, a5⟩ := HMF.out
      exact grows_core HNL.out.symm hYn hpe hcc hpr HJT.out.1 (fun j hj => by have := a5 j (by have := HNL.out; omega); omega) HPy.out hP2 a1 hm1 (occ_again HJT.out.2 q' a3 a1) (occ_again HJT.out.2 q' hm3 hm1) a4 hm4 hi hwi
    clear hE hcY hfY hlY hq' hYl hYs hYg hjn hne hself hpr hpe hcc hYn hm1 hm2 hm3 hm4 hm5
    generalize (x.parts.getD Q dPn).procs.set j (caPr ((x.parts.getD Q dPn).procs.getD j dPrc) (zc + more)) = ys at *
    clear hca
    go_upto_region 11 with (go_at_call 4; refine hw.mono ?_; clear hw; rintro e w8 ⟨gl2, g2, s2, dd2, f2, W2, w2'', rfl, hP2, hN2, hgl2, k8⟩; have HN2 : Hid (Nm w8 gl2 mm (wsF dd2 f2 s2)) := hN2; have HS2 : Hid (∀ i, i < mm → wsF dd2 f2 s2 i ≠ -1 → wsF d f s i ≠ -1 ∧ wsF d f s i ≤ wsF dd2 f2 s2 i) := HSM.out _ _ _ _ _ _ hP2; have KK8 : Hid (Kept No w7 w8) := k8; clear k8 hP2 hN2 hgl2)
    clear HSM y0 y1 y2
    have K8 : Hid (Kept No w w8) := KW7.out.trans KK8.out (fun _ h => h.elim)
    have HN1 : Hid (Nm w8 gl mm (wsF d f s)) := HN7.out.kept KK8.out (fun h => h)
    have HPC : Hid (∀ i, i < mm → w8.cell? ⟨g', of + i * 6 + 3, none⟩ = some (.int .i64 ((x.parts.getD Q dPn).procs.getD i dPrc).li)) := fun i hi => KK8.out.cell (HPR.out i hi) (fun h => h)
    clear HPR
    generalize (x.parts.getD Q dPn).procs = xs at *
    generalize wsF d f s = wf at *
    generalize wsF dd2 f2 s2 = wg at *
    have hB := HB.out
    subst hB
    clear HB
    go_wp2
    go_loopw [17, 18] (fun b i wr => ∃ k : Nat, k ≤ mm ∧ i = .int .i64 k ∧ b = .bool (itB wf xs k) ∧ Kept No w8 wr) (fun _ i _ => mm - (intOf i).toNat)
    case atStart => exact ⟨0, by omega, rfl, rfl, Kept.refl _ _⟩
    case round =>
      obtain ⟨k, hk, rfl, rfl, K⟩ := hrel
      have HK : Hid (Kept No w8 wr) := K
      by_cases hlt : k < mm
      · have pl := K.cell (HPC.out k hlt) (fun h => h)
        have v1 := K.cell (HN1.out.2 k hlt) (fun h => h)
        have v2 := K.cell (HN2.out.2 k hlt) (fun h => h)
        have HSK : Hid (wg k ≠ -1 → wf k ≠ -1 ∧ wf k ≤ wg k) := HS2.out k hlt
        have hgk : (k : Int) < (mm : Int) := by omega
        have HS : Hid (itB wf xs (k + 1) = (itB wf xs k && (wf k != -1 && decide (wf k ≤ (xs.getD k dPrc).li)))) := rfl
        generalize (xs.getD k dPrc).li = lk at *
        generalize wf k = vk at *
        generalize wg k = uk at *
        generalize itB wf xs k = bk at *
        clear K
        have fin : ∀ c : Bool, (bk && (vk != -1 && decide (vk ≤ lk))) = c → Hid (itB wf xs (k + 1) = c) := fun c h => HS.out.trans h
        clear HS
        cases bk
        · skip
          have HF : Hid (itB wf xs (k + 1) = false) := fin false (by simp)
          clear fin
          by_cases hu : uk = -1
          · subst hu
            go_wp2
            go_quiet (fail)
            go_wp2
            go_quiet (fail)
            go_wp2
            go_roundw
            case rel => exact ⟨k + 1, by omega, by go_num, by first | (rw [HF.out]; done) | (rw [HF.out]; rfl) | (rw [HF.out]; simp [hv, hl]; done) | (rw [HF.out]; simp [hv]; done) | (rw [HF.out]; simp [hv]; omega), by first | exact HK.out.drewN _ | exact (HK.out.drewN _).drewN _⟩
            case measure => simp [intOf]; omega
          · obtain ⟨hv0, hv9⟩ := HSK.out hu
            have hv8 : ¬ uk < vk := by omega
            have hv1 : (vk == -1) = false := by simpa using hv0
            have hv2 : decide (vk = -1) = false := decide_eq_false hv0
            have hv3 : decide (uk < vk) = false := decide_eq_false hv8
            have hv4 : (uk != -1) = true := by simpa using hu
            have hv5 : decide (uk = -1) = false := decide_eq_false hu
            go_wp2
            go_quiet (fail)
            go_wp2
            go_quiet (fail)
            go_wp2
            go_roundw
            case rel => exact ⟨k + 1, by omega, by go_num, by first | (rw [HF.out]; done) | (rw [HF.out]; rfl) | (rw [HF.out]; simp [hv, hl]; done) | (rw [HF.out]; simp [hv]; done) | (rw [HF.out]; simp [hv]; omega), by first | exact HK.out.drewN _ | exact (HK.out.drewN _).drewN _⟩
            case measure => simp [intOf]; omega
        · by_cases hv : vk = -1
          · subst hv
            have HF : Hid (itB wf xs (k + 1) = false) := fin false (by simp)
            clear fin
            by_cases hu : uk = -1
            · subst hu
              go_wp2
              go_quiet (fail)
              go_wp2
              go_quiet (fail)
              go_wp2
              go_roundw
              case rel => exact ⟨k + 1, by omega, by go_num, by first | (rw [HF.out]; done) | (rw [HF.out]; rfl) | (rw [HF.out]; simp [hv, hl]; done) | (rw [HF.out]; simp [hv]; done) | (rw [HF.out]; simp [hv]; omega), by first | exact HK.out.drewN _ | exact (HK.out.drewN _).drewN _⟩
              case measure => simp [intOf]; omega
            · exact absurd rfl (HSK.out hu).1
          · by_cases hl : vk ≤ lk
            · skip
              have HF : Hid (itB wf xs (k + 1) = true) := fin true (by simp; omega)
              clear fin
              by_cases hu : uk = -1
              · subst hu
                go_wp2
                go_quiet (fail)
                go_wp2
                go_quiet (fail)
                go_wp2
                go_roundw
                case rel => exact ⟨k + 1, by omega, by go_num, by first | (rw [HF.out]; done) | (rw [HF.out]; rfl) | (rw [HF.out]; simp [hv, hl]; done) | (rw [HF.out]; simp [hv]; done) | (rw [HF.out]; simp [hv]; omega), by first | exact HK.out.drewN _ | exact (HK.out.drewN _).drewN _⟩
                case measure => simp [intOf]; omega
              · obtain ⟨hv0, hv9⟩ := HSK.out hu
                have hv8 : ¬ uk < vk := by omega
                have hv1 : (vk == -1) = false := by simpa using hv0
                have hv2 : decide (vk = -1) = false := decide_eq_false hv0
                have hv3 : decide (uk < vk) = false := decide_eq_false hv8
                have hv4 : (uk != -1) = true := by simpa using hu
                have hv5 : decide (uk = -1) = false := decide_eq_false hu
                go_wp2
                go_quiet (fail)
                go_wp2
                go_quiet (fail)
                go_wp2
                go_roundw
                case rel => exact ⟨k + 1, by omega, by go_num, by first | (rw [HF.out]; done) | (rw [HF.out]; rfl) | (rw [HF.out]; simp [hv, hl]; done) | (rw [HF.out]; simp [hv]; done) | (rw [HF.out]; simp [hv]; omega), by first | exact HK.out.drewN _ | exact (HK.out.drewN _).drewN _⟩
                case measure => simp [intOf]; omega
            · skip
              have HF : Hid (itB wf xs (k + 1) = false) := fin false (by simp; omega)
              clear fin
              by_cases hu : uk = -1
              · subst hu
                go_wp2
                go_quiet (fail)
                go_wp2
                go_quiet (fail)
                go_wp2
                go_roundw
                case rel => exact ⟨k + 1, by omega, by go_num, by first | (rw [HF.out]; done) | (rw [HF.out]; rfl) | (rw [HF.out]; simp [hv, hl]; done) | (rw [HF.out]; simp [hv]; done) | (rw [HF.out]; simp [hv]; omega), by first | exact HK.out.drewN _ | exact (HK.out.drewN _).drewN _⟩
                case measure => simp [intOf]; omega
              · obtain ⟨hv0, hv9⟩ := HSK.out hu
                have hv8 : ¬ uk < vk := by omega
                have hv1 : (vk == -1) = false := by simpa using hv0
                have hv2 : decide (vk = -1) = false := decide_eq_false hv0
                have hv3 : decide (uk < vk) = false := decide_eq_false hv8
                have hv4 : (uk != -1) = true := by simpa using hu
                have hv5 : decide (uk = -1) = false := decide_eq_false hu
                go_wp2
                go_quiet (fail)
                go_wp2
                go_quiet (fail)
                go_wp2
                go_roundw
                case rel => exact ⟨k + 1, by omega, by go_num, by first | (rw [HF.out]; done) | (rw [HF.out]; rfl) | (rw [HF.out]; simp [hv, hl]; done) | (rw [HF.out]; simp [hv]; done) | (rw [HF.out]; simp [hv]; omega), by first | exact HK.out.drewN _ | exact (HK.out.drewN _).drewN _⟩
                case measure => simp [intOf]; omega
      · have hkn : k = mm := by omega
        subst hkn
        clear K
        generalize itB wf xs k = bk at *
        cases bk
        all_goals
          go_wp2
          go_ret
          exact ⟨rfl, K8.out.trans HK.out (fun _ h => h.elim)⟩
  · have HE : Hid (woE Y q ≠ 0) := hE
    have hz0 : ¬ woE Y q = 0 := hE
    obtain ⟨er, her⟩ : ∃ er, er = woE Y q := ⟨_, rfl⟩
    have HER : Hid (er = woE Y q) := her
    rw [← her] at hz0
    clear her hE hca hjn
    have hz1 : decide (er = 0) = false := decide_eq_false hz0
    have hz2 : (er == 0) = false := by simpa using hz0
    go_upto_region 11 with (go_at_call 4; refine (worst_err (q : Int) _ (HG.out.1.kept KW7.out) (ops_of HG.out.2 KW7.out) HYI.out HE.out).mono ?_; rintro e w8 ⟨rfl, k8⟩; rw [← HER.out]; have KK8 : Hid (Kept No w7 w8) := k8; clear k8)
    clear y0 y1 y2
    have K8 : Hid (Kept No w w8) := KW7.out.trans KK8.out (fun _ h => h.elim)
    have HN1 : Hid (Nm w8 gl mm (wsF d f s)) := HN7.out.kept KK8.out (fun h => h)
    have HPC : Hid (∀ i, i < mm → w8.cell? ⟨g', of + i * 6 + 3, none⟩ = some (.int .i64 ((x.parts.getD Q dPn).procs.getD i dPrc).li)) := fun i hi => KK8.out.cell (HPR.out i hi) (fun h => h)
    clear HPR
    generalize (x.parts.getD Q dPn).procs = xs at *
    generalize wsF d f s = wf at *
    have hB := HB.out
    subst hB
    clear HB
    go_wp2
    go_loopw [17, 18] (fun b i wr => ∃ k : Nat, k ≤ mm ∧ i = .int .i64 k ∧ b = .bool (itB wf xs k) ∧ Kept No w8 wr) (fun _ i _ => mm - (intOf i).toNat)
    case atStart => exact ⟨0, by omega, rfl, rfl, Kept.refl _ _⟩
    case round =>
      obtain ⟨k, hk, rfl, rfl, K⟩ := hrel
      have HK : Hid (Kept No w8 wr) := K
      by_cases hlt : k < mm
      · have pl := K.cell (HPC.out k hlt) (fun h => h)
        have v1 := K.cell (HN1.out.2 k hlt) (fun h => h)
        have hgk : (k : Int) < (mm : Int) := by omega
        have HS : Hid (itB wf xs (k + 1) = (itB wf xs k && (wf k != -1 && decide (wf k ≤ (xs.getD k dPrc).li)))) := rfl
        generalize (xs.getD k dPrc).li = lk at *
        generalize wf k = vk at *
        generalize itB wf xs k = bk at *
        clear K
        have fin : ∀ c : Bool, (bk && (vk != -1 && decide (vk ≤ lk))) = c → Hid (itB wf xs (k + 1) = c) := fun c h => HS.out.trans h
        clear HS
        cases bk
        · skip
          have HF : Hid (itB wf xs (k + 1) = false) := fin false (by simp)
          clear fin
          go_wp2
          go_quiet (fail)
          go_wp2
          go_quiet (fail)
          go_wp2
          go_roundw
          case rel => exact ⟨k + 1, by omega, by go_num, by first | (rw [HF.out]; done) | (rw [HF.out]; rfl) | (rw [HF.out]; simp [hv, hl]; done) | (rw [HF.out]; simp [hv]; done) | (rw [HF.out]; simp [hv]; omega), by first | exact HK.out.drewN _ | exact (HK.out.drewN _).drewN _⟩
          case measure => simp [intOf]; omega
        · by_cases hv : vk = -1
          · subst hv
            have HF : Hid (itB wf xs (k + 1) = false) := fin false (by simp)
            clear fin
            go_wp2
            go_quiet (fail)
            go_wp2
            go_quiet (fail)
            go_wp2
            go_roundw
            case rel => exact ⟨k + 1, by omega, by go_num, by first | (rw [HF.out]; done) | (rw [HF.out]; rfl) | (rw [HF.out]; simp [hv, hl]; done) | (rw [HF.out]; simp [hv]; done) | (rw [HF.out]; simp [hv]; omega), by first | exact HK.out.drewN _ | exact (HK.out.drewN _).drewN _⟩
            case measure => simp [intOf]; omega
          · by_cases hl : vk ≤ lk
            · skip
              have HF : Hid (itB wf xs (k + 1) = true) := fin true (by simp; omega)
              clear fin
              go_wp2
              go_quiet (fail)
              go_wp2
              go_quiet (fail)
              go_wp2
              go_roundw
              case rel => exact ⟨k + 1, by omega, by go_num, by first | (rw [HF.out]; done) | (rw [HF.out]; rfl) | (rw [HF.out]; simp [hv, hl]; done) | (rw [HF.out]; simp [hv]; done) | (rw [HF.out]; simp [hv]; omega), by first | exact HK.out.drewN _ | exact (HK.out.drewN _).drewN _⟩
              case measure => simp [intOf]; omega
            · skip
              have HF : Hid (itB wf xs (k + 1) = false) := fin false (by simp; omega)
              clear fin
              go_wp2
              go_quiet (fail)
              go_wp2
              go_quiet (fail)
              go_wp2
              go_roundw
              case rel => exact ⟨k + 1, by omega, by go_num, by first | (rw [HF.out]; done) | (rw [HF.out]; rfl) | (rw [HF.out]; simp [hv, hl]; done) | (rw [HF.out]; simp [hv]; done) | (rw [HF.out]; simp [hv]; omega), by first | exact HK.out.drewN _ | exact (HK.out.drewN _).drewN _⟩
              case measure => simp [intOf]; omega
      · have hkn : k = mm := by omega
        subst hkn
        clear K
        generalize itB wf xs k = bk at *
        cases bk
        all_goals
          go_wp2
          go_ret
          exact ⟨rfl, K8.out.trans HK.out (fun _ h => h.elim)⟩

theorem grows_law {a0 a1 a2 : Option Addr} {n0 c0 n1 c1 n2 c2 : Nat} {x : Im} (w : World) (hg : Gl w) (hO : Lg.Ops w) (h : Img w (Hn w) a0 n0 c0 a1 n1 c1 a2 n2 c2 x) (hS : szIm x) (p which more : Int) :
    Calls Tryz.prog 3 #[.agg #[.slice a0 n0 c0, .slice a1 n1 c1, .slice a2 n2 c2], .int .i64 p, .int .i64 which, .int .i64 more] w fun e w' => e = .returned (.bool true) ∧ Kept No w w' := by
  by_cases he : woE x p = 0
  · by_cases hb : which < 0 ∨ ((x.parts.getD (p.toNat - 1) dPn).procs.length : Int) ≤ which ∨ more < 0 ∨ 1000 < more
    · exact grows_out w hg hO h hS p which more he hb
    · obtain ⟨j, rfl⟩ := Int.eq_ofNat_of_zero_le (show 0 ≤ which by omega)
      exact grows_in w hg hO h hS p j more he (by omega) (by omega) (by omega)
  · exact grows_err w hg hO h hS p which more he
end Go.Proofs.YtknobeiggmghoaaGreatDoor
