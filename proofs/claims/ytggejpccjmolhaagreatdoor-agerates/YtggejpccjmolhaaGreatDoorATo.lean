/-
  The document's to: the walk.
-/
import Derived.Test.YtggejpccjmolhaaGreatDoorATo0
import Derived.Deep.DeepCutAuto
namespace Go.Proofs.YtggejpccjmolhaaGreatDoor
open Go.RowKit Plain
set_option linter.unusedVariables false
set_option linter.unusedSimpArgs false
set_option maxRecDepth 100000

attribute [local irreducible] wpQuiet
set_option maxHeartbeats 32000000 in
theorem rto_any (F : Nat → Prop) (v0 : Value) (a1 : Option Addr) (n1 c1 : Nat) (ps : List Po) (a : Option Addr) (n c : Nat) (L : List Ch) (i : Nat) (w : World) (hi : i < n) (hP : Ls 6 elPo w F a1 n1 c1 ps) (hL : Ls 5 elCh w F a n c L) (hfr : (L.getD i dCh).fr = 0 ∨ (1 ≤ (L.getD i dCh).fr ∧ (L.getD i dCh).fr ≤ n1)) (hv0 : v0.oneCell' = true) :
    Calls Tryz.prog 36 #[.agg #[v0, .slice a1 n1 c1, .slice a n c], .int .i64 (i : Int)] w fun e w' => e = .returned (.bool (toF ps (L.take i) (L.getD i dCh).kd 0 (if (L.getD i dCh).fr = 0 then 0 else (poAt ps (L.getD i dCh).fr).sz) (L.getD i dCh).dst)) ∧ Kept No w w' := by
  have hn : n ≤ 9223372036854775807 := Nat.le_trans hL.cap hL.max
  have hn1 : n1 ≤ 9223372036854775807 := Nat.le_trans hP.cap hP.max
  have HK : Hid (Kept No w (w.alloc (.cells #[v0, .slice a1 n1 c1, .slice a n c] 26))) := (Kept.refl No w).alloc _
  have D : Hid (∀ W, Kept No (w.alloc (.cells #[v0, .slice a1 n1 c1, .slice a n c] 26)) W → W.cell? ⟨w.heap.size, 0, none⟩ = some v0 ∧ W.cell? ⟨w.heap.size, 1, none⟩ = some (.slice a1 n1 c1) ∧ W.cell? ⟨w.heap.size, 2, none⟩ = some (.slice a n c)) := fun W k => ⟨k.cell (by simp) (fun h => h), k.cell (by simp) (fun h => h), k.cell (by simp) (fun h => h)⟩
  have hlen : L.length = n := hL.len
  have hlp : ps.length = n1 := hP.len
  have hx : L[i]? = some (L.getD i dCh) := by rw [List.getD, List.getElem?_eq_getElem (by omega)]; rfl
  obtain ⟨bb, oo, ds, rfl, _, _, hr, hE⟩ := hL.at' i _ hx
  obtain ⟨ta, tn, tc, rfl, hT⟩ := hE.sl
  have htn := hT.len
  have htm : tn ≤ 9223372036854775807 := Nat.le_trans hT.cap hT.max
  have HFD : Hid (∀ (W : World) (v : Value) (port : Int), Kept No w W → Calls Tryz.prog 45 #[.agg #[v0, v, .slice (some ⟨bb, oo, none⟩) n c], .int .i64 (i : Int), .int .i64 port, .bool false] W fun e w' => e = .returned (.bool ((L.take i).any fun o => o.dst.any fun y => y == port)) ∧ Kept No W w') := fun W v port k => fed_in F v0 v _ n c L i port W (by omega) (hL.kept k (fun _ _ h => h) (elCh_kept k (fun _ _ h => h)))
  have HP : Hid (Ls 6 elPo w F a1 n1 c1 ps) := hP
  have HT : Hid (Ls 1 elI w F ta tn tc (L.getD i dCh).dst) := hT
  have KA := HK.out
  have r0 := KA.cell (hr 0 _ rfl) (fun h => h)
  have r1 := KA.cell (hr 1 _ rfl) (fun h => h)
  have r2 := KA.cell (hr 2 _ rfl) (fun h => h)
  have r3 := KA.cell (hr 3 _ rfl) (fun h => h)
  have r4 := KA.cell (hr 4 _ rfl) (fun h => h)
  rw [Nat.add_zero] at r0
  have d0 := D.out _ (Kept.refl No _)
  obtain ⟨e0, e1, e2⟩ := d0
  have HLM : Hid (ps.length = n1 ∧ tn ≤ 9223372036854775807 ∧ n1 ≤ 9223372036854775807) := ⟨hlp, htm, hn1⟩
  obtain ⟨M, hM⟩ : ∃ M, M = L.take i := ⟨_, rfl⟩
  rw [← hM] at HFD
  rw [← hM]
  clear hL hP hE hr hx hT KA hlen hM
  generalize L.getD i dCh = z at *
  obtain ⟨z0, z1, z2, z3, z4⟩ := z
  simp only at r0 r1 r2 r3 r4 htn HT hfr
  simp only
  have hi2 : (i : Int) < (n : Int) := by omega
  have HKB : Hid (Kept No w ((w.alloc (.cells #[v0, .slice a1 n1 c1, .slice (some ⟨bb, oo, none⟩) n c] 26)).alloc (.cells #[.int .i64 z0, .int .i64 z1, .slice ta tn tc, .int .i64 z3, .int .i64 z4] 34))) := HK.out.alloc _
  have DB : Hid (∀ W, Kept No ((w.alloc (.cells #[v0, .slice a1 n1 c1, .slice (some ⟨bb, oo, none⟩) n c] 26)).alloc (.cells #[.int .i64 z0, .int .i64 z1, .slice ta tn tc, .int .i64 z3, .int .i64 z4] 34)) W → W.cell? ⟨w.heap.size, 1, none⟩ = some (.slice a1 n1 c1) ∧ W.cell? ⟨w.heap.size + 1, 0, none⟩ = some (.int .i64 z0) ∧ W.cell? ⟨w.heap.size + 1, 1, none⟩ = some (.int .i64 z1) ∧ W.cell? ⟨w.heap.size + 1, 2, none⟩ = some (.slice ta tn tc) ∧ (Instr.loadAt 26 (.pointer (some ⟨w.heap.size, 0, none⟩))).run Tryz.prog W = .ok (.agg #[v0, .slice a1 n1 c1, .slice (some ⟨bb, oo, none⟩) n c]) W) := fun W k => by
    have k2 : Kept No (w.alloc (.cells #[v0, .slice a1 n1 c1, .slice (some ⟨bb, oo, none⟩) n c] 26)) W := ((Kept.refl No _).alloc _).trans k (fun _ h => h.elim)
    obtain ⟨x0, x1, x2⟩ := D.out W k2
    refine ⟨x1, k.cell (by simp) (fun h => h), k.cell (by simp) (fun h => h), k.cell (by simp) (fun h => h), ?_⟩
    exact run_loadAt_mid W w.heap.size 0 _ [v0, .slice a1 n1 c1, .slice (some ⟨bb, oo, none⟩) n c] _ (fun j v hv => by
      match j, hv with
      | 0, hv => cases hv; exact x0
      | 1, hv => cases hv; exact x1
      | 2, hv => cases hv; exact x2
      | j + 3, hv => simp at hv) Tryz.underlying26 rfl sizeEIm
  obtain ⟨S0, hS0⟩ : ∃ S0 : Int, S0 = if z1 = 0 then 0 else (poAt ps z1).sz := ⟨_, rfl⟩
  rw [← hS0]
  obtain ⟨R, hR⟩ : ∃ R, R = toF ps M z0 0 S0 z2 := ⟨_, rfl⟩
  rw [← hR]
  have HR : Hid (R = toF ps M z0 0 S0 z2) := hR
  have HS0 := hid hS0
  have HZ := hid hfr
  clear hR hS0 hfr D
  go_enter Tryz.func36, Tryz.ntmps36
  go_upto_region 3 with fail
  generalize (w.alloc (.cells #[v0, .slice a1 n1 c1, .slice (some ⟨bb, oo, none⟩) n c] 26)).alloc (.cells #[.int .i64 z0, .int .i64 z1, .slice ta tn tc, .int .i64 z3, .int .i64 z4] 34) = wB at *
  generalize w.heap.size = b0 at *
  obtain ⟨b1, hb1⟩ : ∃ b1, b1 = b0 + 1 := ⟨_, rfl⟩
  rw [← hb1] at DB
  rw [← hb1]
  have dB := DB.out wB (Kept.refl No _)
  obtain ⟨f1, f2, f3, f4, _⟩ := dB
  clear r0 r1 r2 r3 r4 e0 e1 e2 hb1 HK
  have HKW := hid HKB.out
  go_upto_if 16 with fail
  go_cut [6] (fun x wx => x = .int .i64 S0 ∧ wx = wB)
  case first =>
    rcases HZ.out with hz | ⟨hz1, hz2⟩
    · have g0 : ¬ (0 : Int) < z1 := by omega
      have hs : S0 = 0 := by rw [HS0.out, if_pos hz]
      subst hs
      go_wp2
      go_meet
      exact ⟨rfl, rfl⟩
    · have g0 : (0 : Int) < z1 := by omega
      obtain ⟨j, pb, po, hj, hjn, rfl, hok, p0, p1, p2, p3, p4, p5⟩ := po_at (HP.out.kept HKB.out (fun _ _ h => h) (elPo_kept HKB.out (fun _ _ h => h))) hz1 hz2
      have hs : S0 = (poAt ps z1).sz := by rw [HS0.out, if_neg (by omega)]
      rw [← hs] at p3
      subst hj
      have hjn2 : (j : Int) < (n1 : Int) := by omega
      clear p0 p1 p2 p4 p5 hok hs HS0 HR
      go_wp2
      go_meet
      exact ⟨rfl, rfl⟩
  case rest =>
  obtain ⟨rfl, hw⟩ := hcut
  obtain rfl := hw.symm
  clear hw
  go_wp2
  clear f1 f2 f3
  go_loopw [6, 7] (fun y v wr => ∃ (k : Nat) (s : Int), y = .int .i64 s ∧ v = .int .i64 k ∧ k ≤ tn ∧ R = toF ps M z0 (if k = 0 then 0 else z2.getD (k - 1) 0) s (z2.drop k) ∧ Kept No wB wr) (fun _ v _ => tn - (intOf v).toNat)
  case atStart => exact ⟨0, S0, rfl, rfl, Nat.zero_le _, HR.out, Kept.refl _ _⟩
  case round =>
    obtain ⟨k, s, rfl, rfl, hk, hRk, K⟩ := hrel
    have HRk := hid hRk
    have HKr := hid K
    have f4r := (DB.out wr K).2.2.2.1
    clear hRk K
    by_cases hlt : k < tn
    · have hkt : (k : Int) < (tn : Int) := by omega
      have hx : z2[k]? = some (z2.getD k 0) := by rw [List.getD, List.getElem?_eq_getElem (by omega)]; rfl
      obtain ⟨tb, tq, ds, rfl, _, _, hr, hE⟩ := HT.out.at' k _ hx
      have hds : ds = [.int .i64 (z2.getD k 0)] := hE.1
      subst hds
      have HX : Hid (∀ W, Kept No wr W → W.cell? ⟨tb, tq + k, none⟩ = some (.int .i64 (z2.getD k 0))) := fun W kw => by
        have := ((HKB.out.trans HKr.out (fun _ h => h.elim)).trans kw (fun _ h => h.elim)).cell (hr 0 _ rfl) (fun h => h)
        rw [Nat.mul_one, Nat.add_zero] at this
        exact this
      have hdr : z2.drop k = z2.getD k 0 :: z2.drop (k + 1) := by
        rw [List.drop_eq_getElem_cons (by omega)]
        simp [List.getD, show k < z2.length by omega]
      have HDR := hid hdr
      have hgn : (if k + 1 = 0 then 0 else z2.getD (k + 1 - 1) 0) = z2.getD k 0 := by rw [if_neg (by omega), Nat.add_sub_cancel]
      have HGN := hid hgn
      obtain ⟨x, hxx⟩ : ∃ x, x = z2.getD k 0 := ⟨_, rfl⟩
      obtain ⟨prev, hpv⟩ : ∃ prev, prev = (if k = 0 then 0 else z2.getD (k - 1) 0) := ⟨_, rfl⟩
      have HPV : Hid (prev = (if k = 0 then 0 else z2.getD (k - 1) 0)) := hpv
      have HR1 : Hid (R = (inB x 1 n1 && (decide (prev < x) && (!((poAt ps x).out) && ((poAt ps x).kd == z0 && ((poAt ps x).sz == (if s = 0 then (poAt ps x).sz else s) && (!(M.any fun o => o.dst.any fun y => y == x) && toF ps M z0 x (if s = 0 then (poAt ps x).sz else s) (z2.drop (k + 1))))))))) := by
        have h := HRk.out
        rw [← hpv, HDR.out, ← hxx, toF, HLM.out.1] at h
        exact h
      rw [← hxx] at HX HGN
      have HQ : Hid (k < tn ∧ tn ≤ 9223372036854775807) := ⟨hlt, HLM.out.2.1⟩
      have HLT := hid hlt
      have HXP : Hid (∀ W, Kept No wr W → 0 < k → W.cell? ⟨tb, tq + (k - 1), none⟩ = some (.int .i64 prev)) := fun W kw h0 => by
        have hx2 : z2[k - 1]? = some (z2.getD (k - 1) 0) := by rw [List.getD, List.getElem?_eq_getElem (by omega)]; rfl
        obtain ⟨tb2, tq2, ds2, e2, _, _, hr2, hE2⟩ := HT.out.at' (k - 1) _ hx2
        injection e2 with e2
        injection e2 with e3 e4 _
        subst e3 e4
        have hds : ds2 = [.int .i64 (z2.getD (k - 1) 0)] := hE2.1
        subst hds
        have := ((HKB.out.trans HKr.out (fun _ h => h.elim)).trans kw (fun _ h => h.elim)).cell (hr2 0 _ rfl) (fun h => h)
        rw [Nat.mul_one, Nat.add_zero] at this
        rw [hpv, if_neg (by omega)]
        exact this
      have DBr : Hid (∀ W, Kept No wr W → W.cell? ⟨b0, 1, none⟩ = some (.slice a1 n1 c1) ∧ W.cell? ⟨b1, 0, none⟩ = some (.int .i64 z0) ∧ W.cell? ⟨b1, 1, none⟩ = some (.int .i64 z1) ∧ W.cell? ⟨b1, 2, none⟩ = some (.slice (some ⟨tb, tq, none⟩) tn tc) ∧ (Instr.loadAt 26 (.pointer (some ⟨b0, 0, none⟩))).run Tryz.prog W = .ok (.agg #[v0, .slice a1 n1 c1, .slice (some ⟨bb, oo, none⟩) n c]) W) := fun W kw => DB.out W (HKr.out.trans kw (fun _ h => h.elim))
      have hkb : (k : Int) ≤ 9223372036854775807 := by omega
      clear hx hr hE hdr hgn hpv hxx hlt hk HRk HDR
      go_upto_region 8 with fail
      obtain ⟨BV, hBV⟩ : ∃ BV : Bool, BV = !(inB x 1 n1 && decide (prev < x)) := ⟨_, rfl⟩
      have HBV := hid hBV
      clear hBV
      go_cut [59] (fun t wx => t = .bool BV ∧ Kept No wr wx)
      case first =>
        as_aux_lemma =>
          cases hbx : inB x 1 n1
          · have e : BV = true := by rw [HBV.out, hbx]; rfl
            subst e
            clear f4r
            refine wp_region_keptA wr (by kernel_rfl) (by kernel_rfl) (Kept.refl No wr) ?_
            refine BigFrame.wpQuiet_want rfl (fun KQ hKQ => ?_)
            refine quiet_valP (fun w5 hw5 => er_fCh2 _ rfl b1 0 rfl) ?_
            refine hKQ _ ?_
            clear hKQ KQ
            simp only [Act.put, List.setIfInBounds_toArray, List.set_cons_zero, List.set_cons_succ]
            refine BigFrame.wpQuiet_want rfl (fun KQ hKQ => ?_)
            refine quiet_valP (fun w5 hw5 => er_ldIs _ rfl b1 (0 + 2) (.slice (some ⟨tb, tq, none⟩) tn tc) rfl (by rw [Nat.zero_add]; exact (DBr.out w5 hw5).2.2.2.1)) ?_
            refine hKQ _ ?_
            clear hKQ KQ
            simp only [Act.put, List.setIfInBounds_toArray, List.set_cons_zero, List.set_cons_succ]
            refine BigFrame.wpQuiet_want rfl (fun KQ hKQ => ?_)
            refine quiet_valP (fun w5 hw5 => er_mv _ rfl (.int .i64 (k : Int)) rfl) ?_
            refine hKQ _ ?_
            clear hKQ KQ
            simp only [Act.put, List.setIfInBounds_toArray, List.set_cons_zero, List.set_cons_succ]
            refine BigFrame.wpQuiet_want rfl (fun KQ hKQ => ?_)
            refine quiet_valP (fun w5 hw5 => er_ixIs _ _ rfl tb tq tn tc k HQ.out.1 HQ.out.2 rfl rfl) ?_
            refine hKQ _ ?_
            clear hKQ KQ
            simp only [Act.put, List.setIfInBounds_toArray, List.set_cons_zero, List.set_cons_succ]
            refine BigFrame.wpQuiet_want rfl (fun KQ hKQ => ?_)
            refine quiet_valP (fun w5 hw5 => er_ldInt _ rfl tb (tq + k) (.int .i64 x) rfl (HX.out w5 hw5)) ?_
            refine hKQ _ ?_
            clear hKQ KQ
            simp only [Act.put, List.setIfInBounds_toArray, List.set_cons_zero, List.set_cons_succ]
            refine BigFrame.wpQuiet_want rfl (fun KQ hKQ => ?_)
            refine quiet_valP (fun w5 hw5 => er_fIm1 _ rfl b0 0 rfl) ?_
            refine hKQ _ ?_
            clear hKQ KQ
            simp only [Act.put, List.setIfInBounds_toArray, List.set_cons_zero, List.set_cons_succ]
            refine BigFrame.wpQuiet_want rfl (fun KQ hKQ => ?_)
            refine quiet_valP (fun w5 hw5 => er_ldPos _ rfl b0 (0 + 1) (.slice a1 n1 c1) rfl (by rw [Nat.zero_add]; exact (DBr.out w5 hw5).1)) ?_
            refine hKQ _ ?_
            clear hKQ KQ
            simp only [Act.put, List.setIfInBounds_toArray, List.set_cons_zero, List.set_cons_succ]
            refine BigFrame.wpQuiet_want rfl (fun KQ hKQ => ?_)
            refine quiet_valP (fun w5 hw5 => er_lenPo _ rfl a1 n1 c1 rfl) ?_
            refine hKQ _ ?_
            clear hKQ KQ
            simp only [Act.put, List.setIfInBounds_toArray, List.set_cons_zero, List.set_cons_succ]
            refine BigFrame.wpQuiet_want rfl (fun KQ hKQ => ?_)
            refine quiet_cWi _ _ _ rfl (.int .i64 x) (.int .i64 1) (.int .i64 (n1 : Int)) (.bool false) rfl rfl rfl (fun w5 hw5 => (rwithin_any x 1 (n1 : Int) w5).mono (fun e w6 he => ⟨by rw [he.1, hbx], by rw [he.2]; exact hw5⟩)) ?_
            refine hKQ _ ?_
            clear hKQ KQ
            simp only [Act.put, List.setIfInBounds_toArray, List.set_cons_zero, List.set_cons_succ]
            refine BigFrame.wpQuiet_want rfl (fun KQ hKQ => ?_)
            refine quiet_valP (fun w5 hw5 => er_ntB _ rfl false true rfl rfl) ?_
            refine hKQ _ ?_
            clear hKQ KQ
            simp only [Act.put, List.setIfInBounds_toArray, List.set_cons_zero, List.set_cons_succ]
            refine BigFrame.wpQuiet_want rfl (fun KQ hKQ => ?_)
            refine quiet_valP (fun w5 hw5 => er_mv _ rfl (.bool true) rfl) ?_
            refine hKQ _ ?_
            clear hKQ KQ
            simp only [Act.put, List.setIfInBounds_toArray, List.set_cons_zero, List.set_cons_succ]
            refine BigFrame.wpQuiet_skip rfl ?_
            simp only [Act.put, List.setIfInBounds_toArray, List.set_cons_zero, List.set_cons_succ]
            refine BigFrame.wpQuiet_skip rfl ?_
            simp only [Act.put, List.setIfInBounds_toArray, List.set_cons_zero, List.set_cons_succ]
            refine BigFrame.wpQuiet_skip rfl ?_
            simp only [Act.put, List.setIfInBounds_toArray, List.set_cons_zero, List.set_cons_succ]
            refine BigFrame.wpQuiet_skip rfl ?_
            simp only [Act.put, List.setIfInBounds_toArray, List.set_cons_zero, List.set_cons_succ]
            refine BigFrame.wpQuiet_skip rfl ?_
            simp only [Act.put, List.setIfInBounds_toArray, List.set_cons_zero, List.set_cons_succ]
            refine BigFrame.wpQuiet_skip rfl ?_
            simp only [Act.put, List.setIfInBounds_toArray, List.set_cons_zero, List.set_cons_succ]
            refine BigFrame.wpQuiet_skip rfl ?_
            simp only [Act.put, List.setIfInBounds_toArray, List.set_cons_zero, List.set_cons_succ]
            refine BigFrame.wpQuiet_skip rfl ?_
            simp only [Act.put, List.setIfInBounds_toArray, List.set_cons_zero, List.set_cons_succ]
            refine BigFrame.wpQuiet_skip rfl ?_
            simp only [Act.put, List.setIfInBounds_toArray, List.set_cons_zero, List.set_cons_succ]
            refine BigFrame.wpQuiet_skip rfl ?_
            simp only [Act.put, List.setIfInBounds_toArray, List.set_cons_zero, List.set_cons_succ]
            refine BigFrame.wpQuiet_skip rfl ?_
            simp only [Act.put, List.setIfInBounds_toArray, List.set_cons_zero, List.set_cons_succ]
            refine BigFrame.wpQuiet_skip rfl ?_
            simp only [Act.put, List.setIfInBounds_toArray, List.set_cons_zero, List.set_cons_succ]
            refine BigFrame.wpQuiet_skip rfl ?_
            simp only [Act.put, List.setIfInBounds_toArray, List.set_cons_zero, List.set_cons_succ]
            refine BigFrame.wpQuiet_skip rfl ?_
            simp only [Act.put, List.setIfInBounds_toArray, List.set_cons_zero, List.set_cons_succ]
            refine BigFrame.wpQuiet_skip rfl ?_
            simp only [Act.put, List.setIfInBounds_toArray, List.set_cons_zero, List.set_cons_succ]
            refine BigFrame.wpQuiet_skip rfl ?_
            simp only [Act.put, List.setIfInBounds_toArray, List.set_cons_zero, List.set_cons_succ]
            refine BigFrame.wpQuiet_want rfl (fun KQ hKQ => ?_)
            refine quiet_valP (fun w5 hw5 => er_pkT _ _ _ rfl (.bool true) rfl rfl) ?_
            refine hKQ _ ?_
            clear hKQ KQ
            simp only [Act.put, List.setIfInBounds_toArray, List.set_cons_zero, List.set_cons_succ]
            refine wpQuiet_nil ?_
            intro w9 k9
            go_wp2
            go_meet
            exact ⟨rfl, k9⟩
          · have hx1 : 1 ≤ x := by simp [inB] at hbx; exact hbx.1
            by_cases h0 : k = 0
            · have hp : prev = 0 := by rw [HPV.out, if_pos h0]
              have e : BV = false := by rw [HBV.out, hbx, decide_eq_true (by omega)]; rfl
              subst e
              have HG : Hid (decide ((0 : Int) < (k : Int)) = false) := decide_eq_false (by omega)
              clear f4r h0
              refine wp_region_keptA wr (by kernel_rfl) (by kernel_rfl) (Kept.refl No wr) ?_
              refine BigFrame.wpQuiet_want rfl (fun KQ hKQ => ?_)
              refine quiet_valP (fun w5 hw5 => er_fCh2 _ rfl b1 0 rfl) ?_
              refine hKQ _ ?_
              clear hKQ KQ
              simp only [Act.put, List.setIfInBounds_toArray, List.set_cons_zero, List.set_cons_succ]
              refine BigFrame.wpQuiet_want rfl (fun KQ hKQ => ?_)
              refine quiet_valP (fun w5 hw5 => er_ldIs _ rfl b1 (0 + 2) (.slice (some ⟨tb, tq, none⟩) tn tc) rfl (by rw [Nat.zero_add]; exact (DBr.out w5 hw5).2.2.2.1)) ?_
              refine hKQ _ ?_
              clear hKQ KQ
              simp only [Act.put, List.setIfInBounds_toArray, List.set_cons_zero, List.set_cons_succ]
              refine BigFrame.wpQuiet_want rfl (fun KQ hKQ => ?_)
              refine quiet_valP (fun w5 hw5 => er_mv _ rfl (.int .i64 (k : Int)) rfl) ?_
              refine hKQ _ ?_
              clear hKQ KQ
              simp only [Act.put, List.setIfInBounds_toArray, List.set_cons_zero, List.set_cons_succ]
              refine BigFrame.wpQuiet_want rfl (fun KQ hKQ => ?_)
              refine quiet_valP (fun w5 hw5 => er_ixIs _ _ rfl tb tq tn tc k HQ.out.1 HQ.out.2 rfl rfl) ?_
              refine hKQ _ ?_
              clear hKQ KQ
              simp only [Act.put, List.setIfInBounds_toArray, List.set_cons_zero, List.set_cons_succ]
              refine BigFrame.wpQuiet_want rfl (fun KQ hKQ => ?_)
              refine quiet_valP (fun w5 hw5 => er_ldInt _ rfl tb (tq + k) (.int .i64 x) rfl (HX.out w5 hw5)) ?_
              refine hKQ _ ?_
              clear hKQ KQ
              simp only [Act.put, List.setIfInBounds_toArray, List.set_cons_zero, List.set_cons_succ]
              refine BigFrame.wpQuiet_want rfl (fun KQ hKQ => ?_)
              refine quiet_valP (fun w5 hw5 => er_fIm1 _ rfl b0 0 rfl) ?_
              refine hKQ _ ?_
              clear hKQ KQ
              simp only [Act.put, List.setIfInBounds_toArray, List.set_cons_zero, List.set_cons_succ]
              refine BigFrame.wpQuiet_want rfl (fun KQ hKQ => ?_)
              refine quiet_valP (fun w5 hw5 => er_ldPos _ rfl b0 (0 + 1) (.slice a1 n1 c1) rfl (by rw [Nat.zero_add]; exact (DBr.out w5 hw5).1)) ?_
              refine hKQ _ ?_
              clear hKQ KQ
              simp only [Act.put, List.setIfInBounds_toArray, List.set_cons_zero, List.set_cons_succ]
              refine BigFrame.wpQuiet_want rfl (fun KQ hKQ => ?_)
              refine quiet_valP (fun w5 hw5 => er_lenPo _ rfl a1 n1 c1 rfl) ?_
              refine hKQ _ ?_
              clear hKQ KQ
              simp only [Act.put, List.setIfInBounds_toArray, List.set_cons_zero, List.set_cons_succ]
              refine BigFrame.wpQuiet_want rfl (fun KQ hKQ => ?_)
              refine quiet_cWi _ _ _ rfl (.int .i64 x) (.int .i64 1) (.int .i64 (n1 : Int)) (.bool true) rfl rfl rfl (fun w5 hw5 => (rwithin_any x 1 (n1 : Int) w5).mono (fun e w6 he => ⟨by rw [he.1, hbx], by rw [he.2]; exact hw5⟩)) ?_
              refine hKQ _ ?_
              clear hKQ KQ
              simp only [Act.put, List.setIfInBounds_toArray, List.set_cons_zero, List.set_cons_succ]
              refine BigFrame.wpQuiet_want rfl (fun KQ hKQ => ?_)
              refine quiet_valP (fun w5 hw5 => er_ntB _ rfl true false rfl rfl) ?_
              refine hKQ _ ?_
              clear hKQ KQ
              simp only [Act.put, List.setIfInBounds_toArray, List.set_cons_zero, List.set_cons_succ]
              refine BigFrame.wpQuiet_want rfl (fun KQ hKQ => ?_)
              refine quiet_valP (fun w5 hw5 => er_mv _ rfl (.bool false) rfl) ?_
              refine hKQ _ ?_
              clear hKQ KQ
              simp only [Act.put, List.setIfInBounds_toArray, List.set_cons_zero, List.set_cons_succ]
              refine BigFrame.wpQuiet_want rfl (fun KQ hKQ => ?_)
              refine quiet_valP (fun w5 hw5 => er_mv _ rfl (.int .i64 (k : Int)) rfl) ?_
              refine hKQ _ ?_
              clear hKQ KQ
              simp only [Act.put, List.setIfInBounds_toArray, List.set_cons_zero, List.set_cons_succ]
              refine BigFrame.wpQuiet_want rfl (fun KQ hKQ => ?_)
              refine quiet_valP (fun w5 hw5 => er_gtN _ _ rfl (k : Int) 0 false rfl rfl HG.out) ?_
              refine hKQ _ ?_
              clear hKQ KQ
              simp only [Act.put, List.setIfInBounds_toArray, List.set_cons_zero, List.set_cons_succ]
              refine BigFrame.wpQuiet_want rfl (fun KQ hKQ => ?_)
              refine quiet_valP (fun w5 hw5 => er_mv _ rfl (.bool false) rfl) ?_
              refine hKQ _ ?_
              clear hKQ KQ
              simp only [Act.put, List.setIfInBounds_toArray, List.set_cons_zero, List.set_cons_succ]
              refine BigFrame.wpQuiet_skip rfl ?_
              simp only [Act.put, List.setIfInBounds_toArray, List.set_cons_zero, List.set_cons_succ]
              refine BigFrame.wpQuiet_skip rfl ?_
              simp only [Act.put, List.setIfInBounds_toArray, List.set_cons_zero, List.set_cons_succ]
              refine BigFrame.wpQuiet_skip rfl ?_
              simp only [Act.put, List.setIfInBounds_toArray, List.set_cons_zero, List.set_cons_succ]
              refine BigFrame.wpQuiet_skip rfl ?_
              simp only [Act.put, List.setIfInBounds_toArray, List.set_cons_zero, List.set_cons_succ]
              refine BigFrame.wpQuiet_skip rfl ?_
              simp only [Act.put, List.setIfInBounds_toArray, List.set_cons_zero, List.set_cons_succ]
              refine BigFrame.wpQuiet_skip rfl ?_
              simp only [Act.put, List.setIfInBounds_toArray, List.set_cons_zero, List.set_cons_succ]
              refine BigFrame.wpQuiet_skip rfl ?_
              simp only [Act.put, List.setIfInBounds_toArray, List.set_cons_zero, List.set_cons_succ]
              refine BigFrame.wpQuiet_skip rfl ?_
              simp only [Act.put, List.setIfInBounds_toArray, List.set_cons_zero, List.set_cons_succ]
              refine BigFrame.wpQuiet_skip rfl ?_
              simp only [Act.put, List.setIfInBounds_toArray, List.set_cons_zero, List.set_cons_succ]
              refine BigFrame.wpQuiet_skip rfl ?_
              simp only [Act.put, List.setIfInBounds_toArray, List.set_cons_zero, List.set_cons_succ]
              refine BigFrame.wpQuiet_skip rfl ?_
              simp only [Act.put, List.setIfInBounds_toArray, List.set_cons_zero, List.set_cons_succ]
              refine BigFrame.wpQuiet_skip rfl ?_
              simp only [Act.put, List.setIfInBounds_toArray, List.set_cons_zero, List.set_cons_succ]
              refine BigFrame.wpQuiet_want rfl (fun KQ hKQ => ?_)
              refine quiet_valP (fun w5 hw5 => er_pkF _ _ _ rfl (.bool false) rfl rfl) ?_
              refine hKQ _ ?_
              clear hKQ KQ
              simp only [Act.put, List.setIfInBounds_toArray, List.set_cons_zero, List.set_cons_succ]
              refine BigFrame.wpQuiet_want rfl (fun KQ hKQ => ?_)
              refine quiet_valP (fun w5 hw5 => er_pkF _ _ _ rfl (.bool false) rfl rfl) ?_
              refine hKQ _ ?_
              clear hKQ KQ
              simp only [Act.put, List.setIfInBounds_toArray, List.set_cons_zero, List.set_cons_succ]
              refine wpQuiet_nil ?_
              intro w9 k9
              go_wp2
              go_meet
              exact ⟨rfl, k9⟩
            · have e : BV = decide (x ≤ prev) := by
                rw [HBV.out, hbx]
                by_cases h1 : prev < x
                · rw [decide_eq_true h1, decide_eq_false (by omega)]; rfl
                · rw [decide_eq_false h1, decide_eq_true (by omega)]; rfl
              have HE := hid e
              have HG : Hid (decide ((0 : Int) < (k : Int)) = true) := decide_eq_true (by omega)
              obtain ⟨kp, hkp⟩ : ∃ kp : Nat, kp = k - 1 := ⟨_, rfl⟩
              have HKP : Hid (wrap64 ((k : Int) - 1) = (kp : Int) ∧ kp < tn) := by
                refine ⟨?_, by have := HLT.out; omega⟩
                rw [show (k : Int) - 1 = (kp : Int) by omega]
                have : (kp : Int) ≤ 9223372036854775807 := by omega
                unfold wrap64; omega
              have HXQ : Hid (∀ W, Kept No wr W → W.cell? ⟨tb, tq + kp, none⟩ = some (.int .i64 prev)) := fun W kw => by rw [hkp]; exact HXP.out W kw (by omega)
              clear f4r h0 e hkp
              refine wp_region_keptA wr (by kernel_rfl) (by kernel_rfl) (Kept.refl No wr) ?_
              refine BigFrame.wpQuiet_want rfl (fun KQ hKQ => ?_)
              refine quiet_valP (fun w5 hw5 => er_fCh2 _ rfl b1 0 rfl) ?_
              refine hKQ _ ?_
              clear hKQ KQ
              simp only [Act.put, List.setIfInBounds_toArray, List.set_cons_zero, List.set_cons_succ]
              refine BigFrame.wpQuiet_want rfl (fun KQ hKQ => ?_)
              refine quiet_valP (fun w5 hw5 => er_ldIs _ rfl b1 (0 + 2) (.slice (some ⟨tb, tq, none⟩) tn tc) rfl (by rw [Nat.zero_add]; exact (DBr.out w5 hw5).2.2.2.1)) ?_
              refine hKQ _ ?_
              clear hKQ KQ
              simp only [Act.put, List.setIfInBounds_toArray, List.set_cons_zero, List.set_cons_succ]
              refine BigFrame.wpQuiet_want rfl (fun KQ hKQ => ?_)
              refine quiet_valP (fun w5 hw5 => er_mv _ rfl (.int .i64 (k : Int)) rfl) ?_
              refine hKQ _ ?_
              clear hKQ KQ
              simp only [Act.put, List.setIfInBounds_toArray, List.set_cons_zero, List.set_cons_succ]
              refine BigFrame.wpQuiet_want rfl (fun KQ hKQ => ?_)
              refine quiet_valP (fun w5 hw5 => er_ixIs _ _ rfl tb tq tn tc k HQ.out.1 HQ.out.2 rfl rfl) ?_
              refine hKQ _ ?_
              clear hKQ KQ
              simp only [Act.put, List.setIfInBounds_toArray, List.set_cons_zero, List.set_cons_succ]
              refine BigFrame.wpQuiet_want rfl (fun KQ hKQ => ?_)
              refine quiet_valP (fun w5 hw5 => er_ldInt _ rfl tb (tq + k) (.int .i64 x) rfl (HX.out w5 hw5)) ?_
              refine hKQ _ ?_
              clear hKQ KQ
              simp only [Act.put, List.setIfInBounds_toArray, List.set_cons_zero, List.set_cons_succ]
              refine BigFrame.wpQuiet_want rfl (fun KQ hKQ => ?_)
              refine quiet_valP (fun w5 hw5 => er_fIm1 _ rfl b0 0 rfl) ?_
              refine hKQ _ ?_
              clear hKQ KQ
              simp only [Act.put, List.setIfInBounds_toArray, List.set_cons_zero, List.set_cons_succ]
              refine BigFrame.wpQuiet_want rfl (fun KQ hKQ => ?_)
              refine quiet_valP (fun w5 hw5 => er_ldPos _ rfl b0 (0 + 1) (.slice a1 n1 c1) rfl (by rw [Nat.zero_add]; exact (DBr.out w5 hw5).1)) ?_
              refine hKQ _ ?_
              clear hKQ KQ
              simp only [Act.put, List.setIfInBounds_toArray, List.set_cons_zero, List.set_cons_succ]
              refine BigFrame.wpQuiet_want rfl (fun KQ hKQ => ?_)
              refine quiet_valP (fun w5 hw5 => er_lenPo _ rfl a1 n1 c1 rfl) ?_
              refine hKQ _ ?_
              clear hKQ KQ
              simp only [Act.put, List.setIfInBounds_toArray, List.set_cons_zero, List.set_cons_succ]
              refine BigFrame.wpQuiet_want rfl (fun KQ hKQ => ?_)
              refine quiet_cWi _ _ _ rfl (.int .i64 x) (.int .i64 1) (.int .i64 (n1 : Int)) (.bool true) rfl rfl rfl (fun w5 hw5 => (rwithin_any x 1 (n1 : Int) w5).mono (fun e w6 he => ⟨by rw [he.1, hbx], by rw [he.2]; exact hw5⟩)) ?_
              refine hKQ _ ?_
              clear hKQ KQ
              simp only [Act.put, List.setIfInBounds_toArray, List.set_cons_zero, List.set_cons_succ]
              refine BigFrame.wpQuiet_want rfl (fun KQ hKQ => ?_)
              refine quiet_valP (fun w5 hw5 => er_ntB _ rfl true false rfl rfl) ?_
              refine hKQ _ ?_
              clear hKQ KQ
              simp only [Act.put, List.setIfInBounds_toArray, List.set_cons_zero, List.set_cons_succ]
              refine BigFrame.wpQuiet_want rfl (fun KQ hKQ => ?_)
              refine quiet_valP (fun w5 hw5 => er_mv _ rfl (.bool false) rfl) ?_
              refine hKQ _ ?_
              clear hKQ KQ
              simp only [Act.put, List.setIfInBounds_toArray, List.set_cons_zero, List.set_cons_succ]
              refine BigFrame.wpQuiet_want rfl (fun KQ hKQ => ?_)
              refine quiet_valP (fun w5 hw5 => er_mv _ rfl (.int .i64 (k : Int)) rfl) ?_
              refine hKQ _ ?_
              clear hKQ KQ
              simp only [Act.put, List.setIfInBounds_toArray, List.set_cons_zero, List.set_cons_succ]
              refine BigFrame.wpQuiet_want rfl (fun KQ hKQ => ?_)
              refine quiet_valP (fun w5 hw5 => er_gtN _ _ rfl (k : Int) 0 true rfl rfl HG.out) ?_
              refine hKQ _ ?_
              clear hKQ KQ
              simp only [Act.put, List.setIfInBounds_toArray, List.set_cons_zero, List.set_cons_succ]
              refine BigFrame.wpQuiet_want rfl (fun KQ hKQ => ?_)
              refine quiet_valP (fun w5 hw5 => er_mv _ rfl (.bool true) rfl) ?_
              refine hKQ _ ?_
              clear hKQ KQ
              simp only [Act.put, List.setIfInBounds_toArray, List.set_cons_zero, List.set_cons_succ]
              refine BigFrame.wpQuiet_want rfl (fun KQ hKQ => ?_)
              refine quiet_valP (fun w5 hw5 => er_fCh2 _ rfl b1 0 rfl) ?_
              refine hKQ _ ?_
              clear hKQ KQ
              simp only [Act.put, List.setIfInBounds_toArray, List.set_cons_zero, List.set_cons_succ]
              refine BigFrame.wpQuiet_want rfl (fun KQ hKQ => ?_)
              refine quiet_valP (fun w5 hw5 => er_ldIs _ rfl b1 (0 + 2) (.slice (some ⟨tb, tq, none⟩) tn tc) rfl (by rw [Nat.zero_add]; exact (DBr.out w5 hw5).2.2.2.1)) ?_
              refine hKQ _ ?_
              clear hKQ KQ
              simp only [Act.put, List.setIfInBounds_toArray, List.set_cons_zero, List.set_cons_succ]
              refine BigFrame.wpQuiet_want rfl (fun KQ hKQ => ?_)
              refine quiet_valP (fun w5 hw5 => er_mv _ rfl (.int .i64 (k : Int)) rfl) ?_
              refine hKQ _ ?_
              clear hKQ KQ
              simp only [Act.put, List.setIfInBounds_toArray, List.set_cons_zero, List.set_cons_succ]
              refine BigFrame.wpQuiet_want rfl (fun KQ hKQ => ?_)
              refine quiet_valP (fun w5 hw5 => er_ixIs _ _ rfl tb tq tn tc k HQ.out.1 HQ.out.2 rfl rfl) ?_
              refine hKQ _ ?_
              clear hKQ KQ
              simp only [Act.put, List.setIfInBounds_toArray, List.set_cons_zero, List.set_cons_succ]
              refine BigFrame.wpQuiet_want rfl (fun KQ hKQ => ?_)
              refine quiet_valP (fun w5 hw5 => er_ldInt _ rfl tb (tq + k) (.int .i64 x) rfl (HX.out w5 hw5)) ?_
              refine hKQ _ ?_
              clear hKQ KQ
              simp only [Act.put, List.setIfInBounds_toArray, List.set_cons_zero, List.set_cons_succ]
              refine BigFrame.wpQuiet_want rfl (fun KQ hKQ => ?_)
              refine quiet_valP (fun w5 hw5 => er_fCh2 _ rfl b1 0 rfl) ?_
              refine hKQ _ ?_
              clear hKQ KQ
              simp only [Act.put, List.setIfInBounds_toArray, List.set_cons_zero, List.set_cons_succ]
              refine BigFrame.wpQuiet_want rfl (fun KQ hKQ => ?_)
              refine quiet_valP (fun w5 hw5 => er_ldIs _ rfl b1 (0 + 2) (.slice (some ⟨tb, tq, none⟩) tn tc) rfl (by rw [Nat.zero_add]; exact (DBr.out w5 hw5).2.2.2.1)) ?_
              refine hKQ _ ?_
              clear hKQ KQ
              simp only [Act.put, List.setIfInBounds_toArray, List.set_cons_zero, List.set_cons_succ]
              refine BigFrame.wpQuiet_want rfl (fun KQ hKQ => ?_)
              refine quiet_valP (fun w5 hw5 => er_mv _ rfl (.int .i64 (k : Int)) rfl) ?_
              refine hKQ _ ?_
              clear hKQ KQ
              simp only [Act.put, List.setIfInBounds_toArray, List.set_cons_zero, List.set_cons_succ]
              refine BigFrame.wpQuiet_want rfl (fun KQ hKQ => ?_)
              refine quiet_valP (fun w5 hw5 => er_sbN _ _ rfl (k : Int) 1 (kp : Int) rfl rfl HKP.out.1) ?_
              refine hKQ _ ?_
              clear hKQ KQ
              simp only [Act.put, List.setIfInBounds_toArray, List.set_cons_zero, List.set_cons_succ]
              refine BigFrame.wpQuiet_want rfl (fun KQ hKQ => ?_)
              refine quiet_valP (fun w5 hw5 => er_ixIs _ _ rfl tb tq tn tc kp HKP.out.2 HQ.out.2 rfl rfl) ?_
              refine hKQ _ ?_
              clear hKQ KQ
              simp only [Act.put, List.setIfInBounds_toArray, List.set_cons_zero, List.set_cons_succ]
              refine BigFrame.wpQuiet_want rfl (fun KQ hKQ => ?_)
              refine quiet_valP (fun w5 hw5 => er_ldInt _ rfl tb (tq + kp) (.int .i64 prev) rfl (HXQ.out w5 hw5)) ?_
              refine hKQ _ ?_
              clear hKQ KQ
              simp only [Act.put, List.setIfInBounds_toArray, List.set_cons_zero, List.set_cons_succ]
              refine BigFrame.wpQuiet_want rfl (fun KQ hKQ => ?_)
              refine quiet_valP (fun w5 hw5 => er_leN _ _ rfl x prev (decide (x ≤ prev)) rfl rfl rfl) ?_
              refine hKQ _ ?_
              clear hKQ KQ
              simp only [Act.put, List.setIfInBounds_toArray, List.set_cons_zero, List.set_cons_succ]
              refine BigFrame.wpQuiet_want rfl (fun KQ hKQ => ?_)
              refine quiet_valP (fun w5 hw5 => er_pkT _ _ _ rfl (.bool (decide (x ≤ prev))) rfl rfl) ?_
              refine hKQ _ ?_
              clear hKQ KQ
              simp only [Act.put, List.setIfInBounds_toArray, List.set_cons_zero, List.set_cons_succ]
              refine BigFrame.wpQuiet_want rfl (fun KQ hKQ => ?_)
              refine quiet_valP (fun w5 hw5 => er_pkF _ _ _ rfl (.bool (decide (x ≤ prev))) rfl rfl) ?_
              refine hKQ _ ?_
              clear hKQ KQ
              simp only [Act.put, List.setIfInBounds_toArray, List.set_cons_zero, List.set_cons_succ]
              refine wpQuiet_nil ?_
              intro w9 k9
              go_wp2
              go_meet
              exact ⟨by rw [HE.out], k9⟩
      case rest =>
      obtain ⟨rfl, kc⟩ := hcut
      have HKc := hid kc
      have HKD : Hid (Kept No wB wc) := HKr.out.trans kc (fun _ h => h.elim)
      cases BV
      · have hb := HBV.out
        have hin : inB x 1 n1 = true ∧ prev < x := by
          cases h1 : (inB x 1 n1 && decide (prev < x))
          · rw [h1] at hb; cases hb
          · simpa using h1
        have hxr : 1 ≤ x ∧ x ≤ n1 := by
          have := hin.1
          simp [inB] at this
          exact this
        have HR2 : Hid (R = (!((poAt ps x).out) && ((poAt ps x).kd == z0 && ((poAt ps x).sz == (if s = 0 then (poAt ps x).sz else s) && (!(M.any fun o => o.dst.any fun y => y == x) && toF ps M z0 x (if s = 0 then (poAt ps x).sz else s) (z2.drop (k + 1))))))) := by
          show R = _
          rw [HR1.out, hin.1, decide_eq_true hin.2]
          simp only [Bool.true_and]
        have dB := DBr.out wc kc
        have hxc := HX.out wc kc
        have HKE : Hid (Kept No w wc) := HKB.out.trans HKD.out (fun _ h => h.elim)
        obtain ⟨j, pb, po, hj, hjn, rfl, hok, p0, p1, p2, p3, p4, p5⟩ := po_at (HP.out.kept HKE.out (fun _ _ h => h) (elPo_kept HKE.out (fun _ _ h => h))) hxr.1 hxr.2
        have f1 := dB.1
        have f4 := dB.2.2.2.1
        have HXJ := hid hj
        have hjn2 : (j : Int) < (n1 : Int) := by omega
        have hxm : x - 1 = (j : Int) := by omega
        obtain ⟨y, hy⟩ : ∃ y, y = poAt ps x := ⟨_, rfl⟩
        rw [← hy] at p0 p1 p2 p3 p4 p5 HR2
        obtain ⟨y0, y1, y2, y3, y4, y5⟩ := y
        simp only at p0 p1 p2 p3 p4 p5 HR2
        have hxb : x ≤ 9223372036854775807 := by have := HLM.out.2.2; omega
        clear hy hok hb hin hxr dB HR1 HBV kc f4r hj
        generalize wc = w8 at *
        have al : ∀ (p : Addr) (v : Value), w8.cell? p = some v → ∀ o, (w8.alloc o).cell? p = some v := fun p v h o => ((Kept.refl No w8).alloc o).cell h (fun h => h)
        have q1 := al _ _ f1
        have q4 := al _ _ f4
        have qx := al _ _ hxc
        have s0 := al _ _ p0
        have s1 := al _ _ p1
        have s2 := al _ _ p2
        have s3 := al _ _ p3
        have s4 := al _ _ p4
        have s5 := al _ _ p5
        clear al
        go_upto_region 10 with fail
        go_region
        clear q1 q4 qx s0 s1 s2 s3 s4 s5 p0 p1 p2 p3 p4 p5 f1 f4 hxc hxm
        have HK10 : Hid (Kept No w8 ((w8.alloc (.cells #[.int .i64 y0, .int .i64 y1, .bool y2, .int .i64 y3, .int .i64 y4, .int .i64 y5] 41)).drew)) := ((Kept.refl No w8).alloc _).drew
        have HPB : Hid (∀ W, Kept No ((w8.alloc (.cells #[.int .i64 y0, .int .i64 y1, .bool y2, .int .i64 y3, .int .i64 y4, .int .i64 y5] 41)).drew) W → W.cell? ⟨w8.heap.size, 1, none⟩ = some (.int .i64 y1) ∧ W.cell? ⟨w8.heap.size, 2, none⟩ = some (.bool y2) ∧ W.cell? ⟨w8.heap.size, 3, none⟩ = some (.int .i64 y3)) := fun W kw => ⟨kw.cell (by simp) (fun h => h), kw.cell (by simp) (fun h => h), kw.cell (by simp) (fun h => h)⟩
        generalize (w8.alloc (.cells #[.int .i64 y0, .int .i64 y1, .bool y2, .int .i64 y3, .int .i64 y4, .int .i64 y5] 41)).drew = w10 at *
        generalize w8.heap.size = b2 at *
        obtain ⟨s', hs'⟩ : ∃ s', s' = (if s = 0 then y3 else s) := ⟨_, rfl⟩
        rw [← hs'] at HR2
        have HS' := hid hs'
        have k3 := (HPB.out w10 (Kept.refl No _)).2.2
        clear hs'
        go_upto_if 71 with fail
        go_cut [6] (fun v wx => v = .int .i64 s' ∧ wx = w10)
        case first =>
          as_aux_lemma =>
            by_cases h0 : s = 0
            · have e : s' = y3 := by rw [HS'.out, if_pos h0]
              subst h0
              subst e
              go_wp2
              go_meet
              exact ⟨rfl, rfl⟩
            · have e : s' = s := by rw [HS'.out, if_neg h0]
              have g0 : (s == 0) = false := by simpa using h0
              have HE := hid e
              clear e
              go_wp2
              go_meet
              exact ⟨by rw [HE.out], rfl⟩
        case rest =>
        obtain ⟨rfl, hw⟩ := hcut
        obtain rfl := hw.symm
        clear hw k3
        have DB10 : Hid (∀ W, Kept No w10 W → W.cell? ⟨b1, 0, none⟩ = some (.int .i64 z0) ∧ W.cell? ⟨b1, 2, none⟩ = some (.slice (some ⟨tb, tq, none⟩) tn tc) ∧ (Instr.loadAt 26 (.pointer (some ⟨b0, 0, none⟩))).run Tryz.prog W = .ok (.agg #[v0, .slice (some ⟨pb, po, none⟩) n1 c1, .slice (some ⟨bb, oo, none⟩) n c]) W) := fun W kw => by
          have h := DBr.out W (HKc.out.trans (HK10.out.trans kw (fun _ h => h.elim)) (fun _ h => h.elim))
          exact ⟨h.2.1, h.2.2.2.1, h.2.2.2.2⟩
        have HX10 : Hid (∀ W, Kept No w10 W → W.cell? ⟨tb, tq + k, none⟩ = some (.int .i64 x)) := fun W kw => HX.out W (HKc.out.trans (HK10.out.trans kw (fun _ h => h.elim)) (fun _ h => h.elim))
        have HKF : Hid (Kept No w w10) := HKE.trans HK10.out (fun _ h => h.elim)
        have HFD10 : Hid (∀ W, Kept No w10 W → Calls Tryz.prog 45 #[.agg #[v0, .slice (some ⟨pb, po, none⟩) n1 c1, .slice (some ⟨bb, oo, none⟩) n c], .int .i64 (i : Int), .int .i64 x, .bool false] W fun e w' => e = .returned (.bool (M.any fun o => o.dst.any fun y => y == x)) ∧ Kept No W w') := fun W kw => HFD.out W _ x (HKF.out.trans kw (fun _ h => h.elim))
        generalize (M.any fun o => o.dst.any fun y => y == x) = fb at *
        go_upto_region 13 with fail
        obtain ⟨CV, hCV⟩ : ∃ CV : Bool, CV = !(!y2 && ((y1 == z0) && ((y3 == s') && !fb))) := ⟨_, rfl⟩
        have HCV := hid hCV
        clear hCV
        go_cut [98] (fun t wx => t = .bool CV ∧ Kept No w10 wx)
        case first =>
          as_aux_lemma =>
            cases y2
            · by_cases g1 : y1 = z0
              · by_cases g2 : y3 = s'
                · have e : CV = fb := by rw [HCV.out, g1, g2]; simp
                  have HG1 : Hid ((y1 != z0) = false) := by simp [g1, hid]
                  have HG2 : Hid ((y3 != s') = false) := by simp [g2, hid]
                  have HE := hid e
                  clear e g1 g2
                  refine wp_region_keptA w10 (by kernel_rfl) (by kernel_rfl) (Kept.refl No w10) ?_
                  refine BigFrame.wpQuiet_want rfl (fun KQ hKQ => ?_)
                  refine quiet_valP (fun w5 hw5 => er_fPo2 _ rfl b2 0 rfl) ?_
                  refine hKQ _ ?_
                  clear hKQ KQ
                  simp only [Act.put, List.setIfInBounds_toArray, List.set_cons_zero, List.set_cons_succ]
                  refine BigFrame.wpQuiet_want rfl (fun KQ hKQ => ?_)
                  refine quiet_valP (fun w5 hw5 => er_ldBl _ rfl b2 (0 + 2) (.bool false) rfl (by rw [Nat.zero_add]; exact (HPB.out w5 hw5).2.1)) ?_
                  refine hKQ _ ?_
                  clear hKQ KQ
                  simp only [Act.put, List.setIfInBounds_toArray, List.set_cons_zero, List.set_cons_succ]
                  refine BigFrame.wpQuiet_want rfl (fun KQ hKQ => ?_)
                  refine quiet_valP (fun w5 hw5 => er_mv _ rfl (.bool false) rfl) ?_
                  refine hKQ _ ?_
                  clear hKQ KQ
                  simp only [Act.put, List.setIfInBounds_toArray, List.set_cons_zero, List.set_cons_succ]
                  refine BigFrame.wpQuiet_want rfl (fun KQ hKQ => ?_)
                  refine quiet_valP (fun w5 hw5 => er_fPo1 _ rfl b2 0 rfl) ?_
                  refine hKQ _ ?_
                  clear hKQ KQ
                  simp only [Act.put, List.setIfInBounds_toArray, List.set_cons_zero, List.set_cons_succ]
                  refine BigFrame.wpQuiet_want rfl (fun KQ hKQ => ?_)
                  refine quiet_valP (fun w5 hw5 => er_ldInt _ rfl b2 (0 + 1) (.int .i64 y1) rfl (by rw [Nat.zero_add]; exact (HPB.out w5 hw5).1)) ?_
                  refine hKQ _ ?_
                  clear hKQ KQ
                  simp only [Act.put, List.setIfInBounds_toArray, List.set_cons_zero, List.set_cons_succ]
                  refine BigFrame.wpQuiet_want rfl (fun KQ hKQ => ?_)
                  refine quiet_valP (fun w5 hw5 => er_fCh0 _ rfl b1 0 rfl) ?_
                  refine hKQ _ ?_
                  clear hKQ KQ
                  simp only [Act.put, List.setIfInBounds_toArray, List.set_cons_zero, List.set_cons_succ]
                  refine BigFrame.wpQuiet_want rfl (fun KQ hKQ => ?_)
                  refine quiet_valP (fun w5 hw5 => er_ldInt _ rfl b1 0 (.int .i64 z0) rfl (DB10.out w5 hw5).1) ?_
                  refine hKQ _ ?_
                  clear hKQ KQ
                  simp only [Act.put, List.setIfInBounds_toArray, List.set_cons_zero, List.set_cons_succ]
                  refine BigFrame.wpQuiet_want rfl (fun KQ hKQ => ?_)
                  refine quiet_valP (fun w5 hw5 => er_neN _ _ rfl y1 z0 false rfl rfl HG1.out) ?_
                  refine hKQ _ ?_
                  clear hKQ KQ
                  simp only [Act.put, List.setIfInBounds_toArray, List.set_cons_zero, List.set_cons_succ]
                  refine BigFrame.wpQuiet_want rfl (fun KQ hKQ => ?_)
                  refine quiet_valP (fun w5 hw5 => er_pkF _ _ _ rfl (.bool false) rfl rfl) ?_
                  refine hKQ _ ?_
                  clear hKQ KQ
                  simp only [Act.put, List.setIfInBounds_toArray, List.set_cons_zero, List.set_cons_succ]
                  refine BigFrame.wpQuiet_want rfl (fun KQ hKQ => ?_)
                  refine quiet_valP (fun w5 hw5 => er_mv _ rfl (.bool false) rfl) ?_
                  refine hKQ _ ?_
                  clear hKQ KQ
                  simp only [Act.put, List.setIfInBounds_toArray, List.set_cons_zero, List.set_cons_succ]
                  refine BigFrame.wpQuiet_want rfl (fun KQ hKQ => ?_)
                  refine quiet_valP (fun w5 hw5 => er_fPo3 _ rfl b2 0 rfl) ?_
                  refine hKQ _ ?_
                  clear hKQ KQ
                  simp only [Act.put, List.setIfInBounds_toArray, List.set_cons_zero, List.set_cons_succ]
                  refine BigFrame.wpQuiet_want rfl (fun KQ hKQ => ?_)
                  refine quiet_valP (fun w5 hw5 => er_ldInt _ rfl b2 (0 + 3) (.int .i64 y3) rfl (by rw [Nat.zero_add]; exact (HPB.out w5 hw5).2.2)) ?_
                  refine hKQ _ ?_
                  clear hKQ KQ
                  simp only [Act.put, List.setIfInBounds_toArray, List.set_cons_zero, List.set_cons_succ]
                  refine BigFrame.wpQuiet_want rfl (fun KQ hKQ => ?_)
                  refine quiet_valP (fun w5 hw5 => er_mv _ rfl (.int .i64 s') rfl) ?_
                  refine hKQ _ ?_
                  clear hKQ KQ
                  simp only [Act.put, List.setIfInBounds_toArray, List.set_cons_zero, List.set_cons_succ]
                  refine BigFrame.wpQuiet_want rfl (fun KQ hKQ => ?_)
                  refine quiet_valP (fun w5 hw5 => er_neN _ _ rfl y3 s' false rfl rfl HG2.out) ?_
                  refine hKQ _ ?_
                  clear hKQ KQ
                  simp only [Act.put, List.setIfInBounds_toArray, List.set_cons_zero, List.set_cons_succ]
                  refine BigFrame.wpQuiet_want rfl (fun KQ hKQ => ?_)
                  refine quiet_valP (fun w5 hw5 => er_pkF _ _ _ rfl (.bool false) rfl rfl) ?_
                  refine hKQ _ ?_
                  clear hKQ KQ
                  simp only [Act.put, List.setIfInBounds_toArray, List.set_cons_zero, List.set_cons_succ]
                  refine BigFrame.wpQuiet_want rfl (fun KQ hKQ => ?_)
                  refine quiet_valP (fun w5 hw5 => er_mv _ rfl (.bool false) rfl) ?_
                  refine hKQ _ ?_
                  clear hKQ KQ
                  simp only [Act.put, List.setIfInBounds_toArray, List.set_cons_zero, List.set_cons_succ]
                  refine BigFrame.wpQuiet_want rfl (fun KQ hKQ => ?_)
                  refine quiet_valP (fun w5 hw5 => er_ld _ _ rfl (.pointer (some ⟨b0, 0, none⟩)) (.agg #[v0, .slice (some ⟨pb, po, none⟩) n1 c1, .slice (some ⟨bb, oo, none⟩) n c]) rfl (DB10.out w5 hw5).2.2) ?_
                  refine hKQ _ ?_
                  clear hKQ KQ
                  simp only [Act.put, List.setIfInBounds_toArray, List.set_cons_zero, List.set_cons_succ]
                  refine BigFrame.wpQuiet_want rfl (fun KQ hKQ => ?_)
                  refine quiet_valP (fun w5 hw5 => er_mv _ rfl (.int .i64 (i : Int)) rfl) ?_
                  refine hKQ _ ?_
                  clear hKQ KQ
                  simp only [Act.put, List.setIfInBounds_toArray, List.set_cons_zero, List.set_cons_succ]
                  refine BigFrame.wpQuiet_want rfl (fun KQ hKQ => ?_)
                  refine quiet_valP (fun w5 hw5 => er_fCh2 _ rfl b1 0 rfl) ?_
                  refine hKQ _ ?_
                  clear hKQ KQ
                  simp only [Act.put, List.setIfInBounds_toArray, List.set_cons_zero, List.set_cons_succ]
                  refine BigFrame.wpQuiet_want rfl (fun KQ hKQ => ?_)
                  refine quiet_valP (fun w5 hw5 => er_ldIs _ rfl b1 (0 + 2) (.slice (some ⟨tb, tq, none⟩) tn tc) rfl (by rw [Nat.zero_add]; exact (DB10.out w5 hw5).2.1)) ?_
                  refine hKQ _ ?_
                  clear hKQ KQ
                  simp only [Act.put, List.setIfInBounds_toArray, List.set_cons_zero, List.set_cons_succ]
                  refine BigFrame.wpQuiet_want rfl (fun KQ hKQ => ?_)
                  refine quiet_valP (fun w5 hw5 => er_mv _ rfl (.int .i64 (k : Int)) rfl) ?_
                  refine hKQ _ ?_
                  clear hKQ KQ
                  simp only [Act.put, List.setIfInBounds_toArray, List.set_cons_zero, List.set_cons_succ]
                  refine BigFrame.wpQuiet_want rfl (fun KQ hKQ => ?_)
                  refine quiet_valP (fun w5 hw5 => er_ixIs _ _ rfl tb tq tn tc k HQ.out.1 HQ.out.2 rfl rfl) ?_
                  refine hKQ _ ?_
                  clear hKQ KQ
                  simp only [Act.put, List.setIfInBounds_toArray, List.set_cons_zero, List.set_cons_succ]
                  refine BigFrame.wpQuiet_want rfl (fun KQ hKQ => ?_)
                  refine quiet_valP (fun w5 hw5 => er_ldInt _ rfl tb (tq + k) (.int .i64 x) rfl (HX10.out w5 hw5)) ?_
                  refine hKQ _ ?_
                  clear hKQ KQ
                  simp only [Act.put, List.setIfInBounds_toArray, List.set_cons_zero, List.set_cons_succ]
                  refine BigFrame.wpQuiet_want rfl (fun KQ hKQ => ?_)
                  refine quiet_cFed _ _ _ _ rfl (.agg #[v0, .slice (some ⟨pb, po, none⟩) n1 c1, .slice (some ⟨bb, oo, none⟩) n c]) (.int .i64 (i : Int)) (.int .i64 x) (.bool false) (.bool fb) rfl rfl rfl rfl (fun w5 hw5 => (HFD10.out w5 hw5).mono (fun e w6 he => ⟨he.1, hw5.trans he.2 (fun _ x => x.elim)⟩)) ?_
                  refine hKQ _ ?_
                  clear hKQ KQ
                  simp only [Act.put, List.setIfInBounds_toArray, List.set_cons_zero, List.set_cons_succ]
                  refine BigFrame.wpQuiet_want rfl (fun KQ hKQ => ?_)
                  refine quiet_valP (fun w5 hw5 => er_pkF _ _ _ rfl (.bool fb) rfl rfl) ?_
                  refine hKQ _ ?_
                  clear hKQ KQ
                  simp only [Act.put, List.setIfInBounds_toArray, List.set_cons_zero, List.set_cons_succ]
                  refine wpQuiet_nil ?_
                  intro w9 k9
                  go_wp2
                  go_meet
                  exact ⟨by rw [HE.out], k9⟩
                · have e : CV = true := by rw [HCV.out, show (y3 == s') = false by simpa using g2]; simp
                  have HG1 : Hid ((y1 != z0) = false) := by simp [g1, hid]
                  have HG2 : Hid ((y3 != s') = true) := by simp [g2, hid]
                  have HE := hid e
                  clear e g1 g2
                  refine wp_region_keptA w10 (by kernel_rfl) (by kernel_rfl) (Kept.refl No w10) ?_
                  refine BigFrame.wpQuiet_want rfl (fun KQ hKQ => ?_)
                  refine quiet_valP (fun w5 hw5 => er_fPo2 _ rfl b2 0 rfl) ?_
                  refine hKQ _ ?_
                  clear hKQ KQ
                  simp only [Act.put, List.setIfInBounds_toArray, List.set_cons_zero, List.set_cons_succ]
                  refine BigFrame.wpQuiet_want rfl (fun KQ hKQ => ?_)
                  refine quiet_valP (fun w5 hw5 => er_ldBl _ rfl b2 (0 + 2) (.bool false) rfl (by rw [Nat.zero_add]; exact (HPB.out w5 hw5).2.1)) ?_
                  refine hKQ _ ?_
                  clear hKQ KQ
                  simp only [Act.put, List.setIfInBounds_toArray, List.set_cons_zero, List.set_cons_succ]
                  refine BigFrame.wpQuiet_want rfl (fun KQ hKQ => ?_)
                  refine quiet_valP (fun w5 hw5 => er_mv _ rfl (.bool false) rfl) ?_
                  refine hKQ _ ?_
                  clear hKQ KQ
                  simp only [Act.put, List.setIfInBounds_toArray, List.set_cons_zero, List.set_cons_succ]
                  refine BigFrame.wpQuiet_want rfl (fun KQ hKQ => ?_)
                  refine quiet_valP (fun w5 hw5 => er_fPo1 _ rfl b2 0 rfl) ?_
                  refine hKQ _ ?_
                  clear hKQ KQ
                  simp only [Act.put, List.setIfInBounds_toArray, List.set_cons_zero, List.set_cons_succ]
                  refine BigFrame.wpQuiet_want rfl (fun KQ hKQ => ?_)
                  refine quiet_valP (fun w5 hw5 => er_ldInt _ rfl b2 (0 + 1) (.int .i64 y1) rfl (by rw [Nat.zero_add]; exact (HPB.out w5 hw5).1)) ?_
                  refine hKQ _ ?_
                  clear hKQ KQ
                  simp only [Act.put, List.setIfInBounds_toArray, List.set_cons_zero, List.set_cons_succ]
                  refine BigFrame.wpQuiet_want rfl (fun KQ hKQ => ?_)
                  refine quiet_valP (fun w5 hw5 => er_fCh0 _ rfl b1 0 rfl) ?_
                  refine hKQ _ ?_
                  clear hKQ KQ
                  simp only [Act.put, List.setIfInBounds_toArray, List.set_cons_zero, List.set_cons_succ]
                  refine BigFrame.wpQuiet_want rfl (fun KQ hKQ => ?_)
                  refine quiet_valP (fun w5 hw5 => er_ldInt _ rfl b1 0 (.int .i64 z0) rfl (DB10.out w5 hw5).1) ?_
                  refine hKQ _ ?_
                  clear hKQ KQ
                  simp only [Act.put, List.setIfInBounds_toArray, List.set_cons_zero, List.set_cons_succ]
                  refine BigFrame.wpQuiet_want rfl (fun KQ hKQ => ?_)
                  refine quiet_valP (fun w5 hw5 => er_neN _ _ rfl y1 z0 false rfl rfl HG1.out) ?_
                  refine hKQ _ ?_
                  clear hKQ KQ
                  simp only [Act.put, List.setIfInBounds_toArray, List.set_cons_zero, List.set_cons_succ]
                  refine BigFrame.wpQuiet_want rfl (fun KQ hKQ => ?_)
                  refine quiet_valP (fun w5 hw5 => er_pkF _ _ _ rfl (.bool false) rfl rfl) ?_
                  refine hKQ _ ?_
                  clear hKQ KQ
                  simp only [Act.put, List.setIfInBounds_toArray, List.set_cons_zero, List.set_cons_succ]
                  refine BigFrame.wpQuiet_want rfl (fun KQ hKQ => ?_)
                  refine quiet_valP (fun w5 hw5 => er_mv _ rfl (.bool false) rfl) ?_
                  refine hKQ _ ?_
                  clear hKQ KQ
                  simp only [Act.put, List.setIfInBounds_toArray, List.set_cons_zero, List.set_cons_succ]
                  refine BigFrame.wpQuiet_want rfl (fun KQ hKQ => ?_)
                  refine quiet_valP (fun w5 hw5 => er_fPo3 _ rfl b2 0 rfl) ?_
                  refine hKQ _ ?_
                  clear hKQ KQ
                  simp only [Act.put, List.setIfInBounds_toArray, List.set_cons_zero, List.set_cons_succ]
                  refine BigFrame.wpQuiet_want rfl (fun KQ hKQ => ?_)
                  refine quiet_valP (fun w5 hw5 => er_ldInt _ rfl b2 (0 + 3) (.int .i64 y3) rfl (by rw [Nat.zero_add]; exact (HPB.out w5 hw5).2.2)) ?_
                  refine hKQ _ ?_
                  clear hKQ KQ
                  simp only [Act.put, List.setIfInBounds_toArray, List.set_cons_zero, List.set_cons_succ]
                  refine BigFrame.wpQuiet_want rfl (fun KQ hKQ => ?_)
                  refine quiet_valP (fun w5 hw5 => er_mv _ rfl (.int .i64 s') rfl) ?_
                  refine hKQ _ ?_
                  clear hKQ KQ
                  simp only [Act.put, List.setIfInBounds_toArray, List.set_cons_zero, List.set_cons_succ]
                  refine BigFrame.wpQuiet_want rfl (fun KQ hKQ => ?_)
                  refine quiet_valP (fun w5 hw5 => er_neN _ _ rfl y3 s' true rfl rfl HG2.out) ?_
                  refine hKQ _ ?_
                  clear hKQ KQ
                  simp only [Act.put, List.setIfInBounds_toArray, List.set_cons_zero, List.set_cons_succ]
                  refine BigFrame.wpQuiet_want rfl (fun KQ hKQ => ?_)
                  refine quiet_valP (fun w5 hw5 => er_pkF _ _ _ rfl (.bool true) rfl rfl) ?_
                  refine hKQ _ ?_
                  clear hKQ KQ
                  simp only [Act.put, List.setIfInBounds_toArray, List.set_cons_zero, List.set_cons_succ]
                  refine BigFrame.wpQuiet_want rfl (fun KQ hKQ => ?_)
                  refine quiet_valP (fun w5 hw5 => er_mv _ rfl (.bool true) rfl) ?_
                  refine hKQ _ ?_
                  clear hKQ KQ
                  simp only [Act.put, List.setIfInBounds_toArray, List.set_cons_zero, List.set_cons_succ]
                  refine BigFrame.wpQuiet_skip rfl ?_
                  simp only [Act.put, List.setIfInBounds_toArray, List.set_cons_zero, List.set_cons_succ]
                  refine BigFrame.wpQuiet_skip rfl ?_
                  simp only [Act.put, List.setIfInBounds_toArray, List.set_cons_zero, List.set_cons_succ]
                  refine BigFrame.wpQuiet_skip rfl ?_
                  simp only [Act.put, List.setIfInBounds_toArray, List.set_cons_zero, List.set_cons_succ]
                  refine BigFrame.wpQuiet_skip rfl ?_
                  simp only [Act.put, List.setIfInBounds_toArray, List.set_cons_zero, List.set_cons_succ]
                  refine BigFrame.wpQuiet_skip rfl ?_
                  simp only [Act.put, List.setIfInBounds_toArray, List.set_cons_zero, List.set_cons_succ]
                  refine BigFrame.wpQuiet_skip rfl ?_
                  simp only [Act.put, List.setIfInBounds_toArray, List.set_cons_zero, List.set_cons_succ]
                  refine BigFrame.wpQuiet_skip rfl ?_
                  simp only [Act.put, List.setIfInBounds_toArray, List.set_cons_zero, List.set_cons_succ]
                  refine BigFrame.wpQuiet_skip rfl ?_
                  simp only [Act.put, List.setIfInBounds_toArray, List.set_cons_zero, List.set_cons_succ]
                  refine BigFrame.wpQuiet_want rfl (fun KQ hKQ => ?_)
                  refine quiet_valP (fun w5 hw5 => er_pkT _ _ _ rfl (.bool true) rfl rfl) ?_
                  refine hKQ _ ?_
                  clear hKQ KQ
                  simp only [Act.put, List.setIfInBounds_toArray, List.set_cons_zero, List.set_cons_succ]
                  refine wpQuiet_nil ?_
                  intro w9 k9
                  go_wp2
                  go_meet
                  exact ⟨by rw [HE.out], k9⟩
              · have e : CV = true := by rw [HCV.out, show (y1 == z0) = false by simpa using g1]; simp
                have HG1 : Hid ((y1 != z0) = true) := by simp [g1, hid]
                have HE := hid e
                clear e g1
                refine wp_region_keptA w10 (by kernel_rfl) (by kernel_rfl) (Kept.refl No w10) ?_
                refine BigFrame.wpQuiet_want rfl (fun KQ hKQ => ?_)
                refine quiet_valP (fun w5 hw5 => er_fPo2 _ rfl b2 0 rfl) ?_
                refine hKQ _ ?_
                clear hKQ KQ
                simp only [Act.put, List.setIfInBounds_toArray, List.set_cons_zero, List.set_cons_succ]
                refine BigFrame.wpQuiet_want rfl (fun KQ hKQ => ?_)
                refine quiet_valP (fun w5 hw5 => er_ldBl _ rfl b2 (0 + 2) (.bool false) rfl (by rw [Nat.zero_add]; exact (HPB.out w5 hw5).2.1)) ?_
                refine hKQ _ ?_
                clear hKQ KQ
                simp only [Act.put, List.setIfInBounds_toArray, List.set_cons_zero, List.set_cons_succ]
                refine BigFrame.wpQuiet_want rfl (fun KQ hKQ => ?_)
                refine quiet_valP (fun w5 hw5 => er_mv _ rfl (.bool false) rfl) ?_
                refine hKQ _ ?_
                clear hKQ KQ
                simp only [Act.put, List.setIfInBounds_toArray, List.set_cons_zero, List.set_cons_succ]
                refine BigFrame.wpQuiet_want rfl (fun KQ hKQ => ?_)
                refine quiet_valP (fun w5 hw5 => er_fPo1 _ rfl b2 0 rfl) ?_
                refine hKQ _ ?_
                clear hKQ KQ
                simp only [Act.put, List.setIfInBounds_toArray, List.set_cons_zero, List.set_cons_succ]
                refine BigFrame.wpQuiet_want rfl (fun KQ hKQ => ?_)
                refine quiet_valP (fun w5 hw5 => er_ldInt _ rfl b2 (0 + 1) (.int .i64 y1) rfl (by rw [Nat.zero_add]; exact (HPB.out w5 hw5).1)) ?_
                refine hKQ _ ?_
                clear hKQ KQ
                simp only [Act.put, List.setIfInBounds_toArray, List.set_cons_zero, List.set_cons_succ]
                refine BigFrame.wpQuiet_want rfl (fun KQ hKQ => ?_)
                refine quiet_valP (fun w5 hw5 => er_fCh0 _ rfl b1 0 rfl) ?_
                refine hKQ _ ?_
                clear hKQ KQ
                simp only [Act.put, List.setIfInBounds_toArray, List.set_cons_zero, List.set_cons_succ]
                refine BigFrame.wpQuiet_want rfl (fun KQ hKQ => ?_)
                refine quiet_valP (fun w5 hw5 => er_ldInt _ rfl b1 0 (.int .i64 z0) rfl (DB10.out w5 hw5).1) ?_
                refine hKQ _ ?_
                clear hKQ KQ
                simp only [Act.put, List.setIfInBounds_toArray, List.set_cons_zero, List.set_cons_succ]
                refine BigFrame.wpQuiet_want rfl (fun KQ hKQ => ?_)
                refine quiet_valP (fun w5 hw5 => er_neN _ _ rfl y1 z0 true rfl rfl HG1.out) ?_
                refine hKQ _ ?_
                clear hKQ KQ
                simp only [Act.put, List.setIfInBounds_toArray, List.set_cons_zero, List.set_cons_succ]
                refine BigFrame.wpQuiet_want rfl (fun KQ hKQ => ?_)
                refine quiet_valP (fun w5 hw5 => er_pkF _ _ _ rfl (.bool true) rfl rfl) ?_
                refine hKQ _ ?_
                clear hKQ KQ
                simp only [Act.put, List.setIfInBounds_toArray, List.set_cons_zero, List.set_cons_succ]
                refine BigFrame.wpQuiet_want rfl (fun KQ hKQ => ?_)
                refine quiet_valP (fun w5 hw5 => er_mv _ rfl (.bool true) rfl) ?_
                refine hKQ _ ?_
                clear hKQ KQ
                simp only [Act.put, List.setIfInBounds_toArray, List.set_cons_zero, List.set_cons_succ]
                refine BigFrame.wpQuiet_skip rfl ?_
                simp only [Act.put, List.setIfInBounds_toArray, List.set_cons_zero, List.set_cons_succ]
                refine BigFrame.wpQuiet_skip rfl ?_
                simp only [Act.put, List.setIfInBounds_toArray, List.set_cons_zero, List.set_cons_succ]
                refine BigFrame.wpQuiet_skip rfl ?_
                simp only [Act.put, List.setIfInBounds_toArray, List.set_cons_zero, List.set_cons_succ]
                refine BigFrame.wpQuiet_skip rfl ?_
                simp only [Act.put, List.setIfInBounds_toArray, List.set_cons_zero, List.set_cons_succ]
                refine BigFrame.wpQuiet_want rfl (fun KQ hKQ => ?_)
                refine quiet_valP (fun w5 hw5 => er_pkT _ _ _ rfl (.bool true) rfl rfl) ?_
                refine hKQ _ ?_
                clear hKQ KQ
                simp only [Act.put, List.setIfInBounds_toArray, List.set_cons_zero, List.set_cons_succ]
                refine BigFrame.wpQuiet_want rfl (fun KQ hKQ => ?_)
                refine quiet_valP (fun w5 hw5 => er_mv _ rfl (.bool true) rfl) ?_
                refine hKQ _ ?_
                clear hKQ KQ
                simp only [Act.put, List.setIfInBounds_toArray, List.set_cons_zero, List.set_cons_succ]
                refine BigFrame.wpQuiet_skip rfl ?_
                simp only [Act.put, List.setIfInBounds_toArray, List.set_cons_zero, List.set_cons_succ]
                refine BigFrame.wpQuiet_skip rfl ?_
                simp only [Act.put, List.setIfInBounds_toArray, List.set_cons_zero, List.set_cons_succ]
                refine BigFrame.wpQuiet_skip rfl ?_
                simp only [Act.put, List.setIfInBounds_toArray, List.set_cons_zero, List.set_cons_succ]
                refine BigFrame.wpQuiet_skip rfl ?_
                simp only [Act.put, List.setIfInBounds_toArray, List.set_cons_zero, List.set_cons_succ]
                refine BigFrame.wpQuiet_skip rfl ?_
                simp only [Act.put, List.setIfInBounds_toArray, List.set_cons_zero, List.set_cons_succ]
                refine BigFrame.wpQuiet_skip rfl ?_
                simp only [Act.put, List.setIfInBounds_toArray, List.set_cons_zero, List.set_cons_succ]
                refine BigFrame.wpQuiet_skip rfl ?_
                simp only [Act.put, List.setIfInBounds_toArray, List.set_cons_zero, List.set_cons_succ]
                refine BigFrame.wpQuiet_skip rfl ?_
                simp only [Act.put, List.setIfInBounds_toArray, List.set_cons_zero, List.set_cons_succ]
                refine BigFrame.wpQuiet_want rfl (fun KQ hKQ => ?_)
                refine quiet_valP (fun w5 hw5 => er_pkT _ _ _ rfl (.bool true) rfl rfl) ?_
                refine hKQ _ ?_
                clear hKQ KQ
                simp only [Act.put, List.setIfInBounds_toArray, List.set_cons_zero, List.set_cons_succ]
                refine wpQuiet_nil ?_
                intro w9 k9
                go_wp2
                go_meet
                exact ⟨by rw [HE.out], k9⟩
            · have e : CV = true := by rw [HCV.out]; simp
              have HE := hid e
              clear e
              refine wp_region_keptA w10 (by kernel_rfl) (by kernel_rfl) (Kept.refl No w10) ?_
              refine BigFrame.wpQuiet_want rfl (fun KQ hKQ => ?_)
              refine quiet_valP (fun w5 hw5 => er_fPo2 _ rfl b2 0 rfl) ?_
              refine hKQ _ ?_
              clear hKQ KQ
              simp only [Act.put, List.setIfInBounds_toArray, List.set_cons_zero, List.set_cons_succ]
              refine BigFrame.wpQuiet_want rfl (fun KQ hKQ => ?_)
              refine quiet_valP (fun w5 hw5 => er_ldBl _ rfl b2 (0 + 2) (.bool true) rfl (by rw [Nat.zero_add]; exact (HPB.out w5 hw5).2.1)) ?_
              refine hKQ _ ?_
              clear hKQ KQ
              simp only [Act.put, List.setIfInBounds_toArray, List.set_cons_zero, List.set_cons_succ]
              refine BigFrame.wpQuiet_want rfl (fun KQ hKQ => ?_)
              refine quiet_valP (fun w5 hw5 => er_mv _ rfl (.bool true) rfl) ?_
              refine hKQ _ ?_
              clear hKQ KQ
              simp only [Act.put, List.setIfInBounds_toArray, List.set_cons_zero, List.set_cons_succ]
              refine BigFrame.wpQuiet_skip rfl ?_
              simp only [Act.put, List.setIfInBounds_toArray, List.set_cons_zero, List.set_cons_succ]
              refine BigFrame.wpQuiet_skip rfl ?_
              simp only [Act.put, List.setIfInBounds_toArray, List.set_cons_zero, List.set_cons_succ]
              refine BigFrame.wpQuiet_skip rfl ?_
              simp only [Act.put, List.setIfInBounds_toArray, List.set_cons_zero, List.set_cons_succ]
              refine BigFrame.wpQuiet_skip rfl ?_
              simp only [Act.put, List.setIfInBounds_toArray, List.set_cons_zero, List.set_cons_succ]
              refine BigFrame.wpQuiet_skip rfl ?_
              simp only [Act.put, List.setIfInBounds_toArray, List.set_cons_zero, List.set_cons_succ]
              refine BigFrame.wpQuiet_want rfl (fun KQ hKQ => ?_)
              refine quiet_valP (fun w5 hw5 => er_pkT _ _ _ rfl (.bool true) rfl rfl) ?_
              refine hKQ _ ?_
              clear hKQ KQ
              simp only [Act.put, List.setIfInBounds_toArray, List.set_cons_zero, List.set_cons_succ]
              refine BigFrame.wpQuiet_want rfl (fun KQ hKQ => ?_)
              refine quiet_valP (fun w5 hw5 => er_mv _ rfl (.bool true) rfl) ?_
              refine hKQ _ ?_
              clear hKQ KQ
              simp only [Act.put, List.setIfInBounds_toArray, List.set_cons_zero, List.set_cons_succ]
              refine BigFrame.wpQuiet_skip rfl ?_
              simp only [Act.put, List.setIfInBounds_toArray, List.set_cons_zero, List.set_cons_succ]
              refine BigFrame.wpQuiet_skip rfl ?_
              simp only [Act.put, List.setIfInBounds_toArray, List.set_cons_zero, List.set_cons_succ]
              refine BigFrame.wpQuiet_skip rfl ?_
              simp only [Act.put, List.setIfInBounds_toArray, List.set_cons_zero, List.set_cons_succ]
              refine BigFrame.wpQuiet_skip rfl ?_
              simp only [Act.put, List.setIfInBounds_toArray, List.set_cons_zero, List.set_cons_succ]
              refine BigFrame.wpQuiet_want rfl (fun KQ hKQ => ?_)
              refine quiet_valP (fun w5 hw5 => er_pkT _ _ _ rfl (.bool true) rfl rfl) ?_
              refine hKQ _ ?_
              clear hKQ KQ
              simp only [Act.put, List.setIfInBounds_toArray, List.set_cons_zero, List.set_cons_succ]
              refine BigFrame.wpQuiet_want rfl (fun KQ hKQ => ?_)
              refine quiet_valP (fun w5 hw5 => er_mv _ rfl (.bool true) rfl) ?_
              refine hKQ _ ?_
              clear hKQ KQ
              simp only [Act.put, List.setIfInBounds_toArray, List.set_cons_zero, List.set_cons_succ]
              refine BigFrame.wpQuiet_skip rfl ?_
              simp only [Act.put, List.setIfInBounds_toArray, List.set_cons_zero, List.set_cons_succ]
              refine BigFrame.wpQuiet_skip rfl ?_
              simp only [Act.put, List.setIfInBounds_toArray, List.set_cons_zero, List.set_cons_succ]
              refine BigFrame.wpQuiet_skip rfl ?_
              simp only [Act.put, List.setIfInBounds_toArray, List.set_cons_zero, List.set_cons_succ]
              refine BigFrame.wpQuiet_skip rfl ?_
              simp only [Act.put, List.setIfInBounds_toArray, List.set_cons_zero, List.set_cons_succ]
              refine BigFrame.wpQuiet_skip rfl ?_
              simp only [Act.put, List.setIfInBounds_toArray, List.set_cons_zero, List.set_cons_succ]
              refine BigFrame.wpQuiet_skip rfl ?_
              simp only [Act.put, List.setIfInBounds_toArray, List.set_cons_zero, List.set_cons_succ]
              refine BigFrame.wpQuiet_skip rfl ?_
              simp only [Act.put, List.setIfInBounds_toArray, List.set_cons_zero, List.set_cons_succ]
              refine BigFrame.wpQuiet_skip rfl ?_
              simp only [Act.put, List.setIfInBounds_toArray, List.set_cons_zero, List.set_cons_succ]
              refine BigFrame.wpQuiet_want rfl (fun KQ hKQ => ?_)
              refine quiet_valP (fun w5 hw5 => er_pkT _ _ _ rfl (.bool true) rfl rfl) ?_
              refine hKQ _ ?_
              clear hKQ KQ
              simp only [Act.put, List.setIfInBounds_toArray, List.set_cons_zero, List.set_cons_succ]
              refine wpQuiet_nil ?_
              intro w9 k9
              go_wp2
              go_meet
              exact ⟨by rw [HE.out], k9⟩
        case rest =>
        obtain ⟨rfl, kc2⟩ := hcut
        have HK11 : Hid (Kept No wB wc) := (HKD.out.trans HK10.out (fun _ h => h.elim)).trans kc2 (fun _ h => h.elim)
        clear kc2
        cases CV
        · have hR3 : R = toF ps M z0 x s' (z2.drop (k + 1)) := by
            have h := HCV.out
            rw [HR2.out]
            cases h1 : (!y2 && ((y1 == z0) && ((y3 == s') && !fb)))
            · rw [h1] at h; cases h
            · simp only [Bool.and_eq_true] at h1
              rw [h1.1, h1.2.1, h1.2.2.1, h1.2.2.2]
              simp
          have HR3 := hid hR3
          clear hR3
          go_wp2
          go_roundw
          case rel => exact ⟨k + 1, s', rfl, by go_num, by have := HLT.out; omega, by rw [HGN.out]; exact HR3.out, HK11.out⟩
          case measure => have := HLT.out; simp [intOf]; omega
        · have hR : R = false := by
            have h := HCV.out
            rw [HR2.out]
            cases h1 : (!y2 && ((y1 == z0) && ((y3 == s') && !fb)))
            · rw [← Bool.and_assoc (y3 == s'), ← Bool.and_assoc (y1 == z0), ← Bool.and_assoc (!y2), h1]; rfl
            · rw [h1] at h; cases h
          have HRF := hid hR
          clear hR
          go_wp2
          go_ret
          exact ⟨by rw [HRF.out]; rfl, HKB.out.trans HK11.out (fun _ h => h.elim)⟩
      · have hR : R = false := by
          have h := HBV.out
          rw [HR1.out]
          cases h1 : (inB x 1 n1 && decide (prev < x))
          · rw [← Bool.and_assoc, h1]; rfl
          · rw [h1] at h; cases h
        have HRF := hid hR
        clear f4r hR kc
        go_wp2
        go_ret
        exact ⟨by rw [HRF.out]; rfl, HKB.out.trans HKD.out (fun _ h => h.elim)⟩
    · have e : tn = k := by omega
      subst e
      have hR : R = true := by
        rw [HRk.out, List.drop_of_length_le (by omega)]
        rfl
      have HRF := hid hR
      clear hR hlt
      go_wp2
      go_ret
      exact ⟨by rw [HRF.out]; rfl, HKB.out.trans HKr.out (fun _ h => h.elim)⟩
end Go.Proofs.YtggejpccjmolhaaGreatDoor
