/-
  The document's channel.
-/
import Derived.Test.YtggejpccjmolhaaGreatDoorATo
namespace Go.Proofs.YtggejpccjmolhaaGreatDoor
open Go.RowKit Plain
set_option linter.unusedVariables false
set_option linter.unusedSimpArgs false
set_option maxRecDepth 100000

/-- may its times be? -/
def tmF (c : Ch) : Bool := if c.kd = 1 ∧ c.fr ≠ 0 then inB c.pe 1 1048576 && inB c.ph 0 (c.pe - 1) else (c.pe == 0 && c.ph == 0)
/-- the document's look at a channel -/
def chD (ps : List Po) (L : List Ch) (i : Nat) (c : Ch) : Bool :=
  inB c.kd 0 1 && (rfB ps L i c && (toF ps (L.take i) c.kd 0 (if c.fr = 0 then 0 else (poAt ps c.fr).sz) c.dst && tmF c))
theorem rf_in {ps : List Po} {L : List Ch} {i : Nat} {c : Ch} (h : rfB ps L i c = true) : c.fr = 0 ∨ (1 ≤ c.fr ∧ c.fr ≤ ps.length) := by
  unfold rfB at h
  by_cases h0 : c.fr = 0
  · exact .inl h0
  · rw [if_neg h0, Bool.and_eq_true] at h
    exact .inr (fit_in h.1)

set_option maxHeartbeats 16000000 in
theorem rchan_any (F : Nat → Prop) (v0 : Value) (a1 : Option Addr) (n1 c1 : Nat) (ps : List Po) (a : Option Addr) (n c : Nat) (L : List Ch) (i : Nat) (w : World) (hi : i < n) (hP : Ls 6 elPo w F a1 n1 c1 ps) (hL : Ls 5 elCh w F a n c L) (hv0 : v0.oneCell' = true) :
    Calls Tryz.prog 21 #[.agg #[v0, .slice a1 n1 c1, .slice a n c], .int .i64 (i : Int)] w fun e w' => e = .returned (.bool (chD ps L i (L.getD i dCh))) ∧ Kept No w w' := by
  have hn : n ≤ 9223372036854775807 := Nat.le_trans hL.cap hL.max
  have HK : Hid (Kept No w (w.alloc (.cells #[v0, .slice a1 n1 c1, .slice a n c] 26))) := (Kept.refl No w).alloc _
  have D : Hid (∀ W, Kept No (w.alloc (.cells #[v0, .slice a1 n1 c1, .slice a n c] 26)) W → W.cell? ⟨w.heap.size, 0, none⟩ = some v0 ∧ W.cell? ⟨w.heap.size, 1, none⟩ = some (.slice a1 n1 c1) ∧ W.cell? ⟨w.heap.size, 2, none⟩ = some (.slice a n c)) := fun W k => ⟨k.cell (by simp) (fun h => h), k.cell (by simp) (fun h => h), k.cell (by simp) (fun h => h)⟩
  have hlen : L.length = n := hL.len
  have hlp : ps.length = n1 := hP.len
  have hx : L[i]? = some (L.getD i dCh) := by rw [List.getD, List.getElem?_eq_getElem (by omega)]; rfl
  have HFR : Hid (∀ W, Kept No w W → Calls Tryz.prog 35 #[.agg #[v0, .slice a1 n1 c1, .slice a n c], .int .i64 (i : Int)] W fun e w' => e = .returned (.bool (rfB ps L i (L.getD i dCh))) ∧ Kept No W w') := fun W k => rfrom_any F v0 a1 n1 c1 ps a n c L i W hi (hP.kept k (fun _ _ h => h) (elPo_kept k (fun _ _ h => h))) (hL.kept k (fun _ _ h => h) (elCh_kept k (fun _ _ h => h)))
  have HTO : Hid (rfB ps L i (L.getD i dCh) = true → ∀ W, Kept No w W → Calls Tryz.prog 36 #[.agg #[v0, .slice a1 n1 c1, .slice a n c], .int .i64 (i : Int)] W fun e w' => e = .returned (.bool (toF ps (L.take i) (L.getD i dCh).kd 0 (if (L.getD i dCh).fr = 0 then 0 else (poAt ps (L.getD i dCh).fr).sz) (L.getD i dCh).dst)) ∧ Kept No W w') := fun hr W k => rto_any F v0 a1 n1 c1 ps a n c L i W hi (hP.kept k (fun _ _ h => h) (elPo_kept k (fun _ _ h => h))) (hL.kept k (fun _ _ h => h) (elCh_kept k (fun _ _ h => h))) (by have := rf_in hr; rw [hlp] at this; exact this) hv0
  obtain ⟨bb, oo, ds, rfl, _, _, hr, hE⟩ := hL.at' i _ hx
  obtain ⟨ta, tn, tc, rfl, hT⟩ := hE.sl
  have hpe : -9223372036854775808 ≤ (L.getD i dCh).pe ∧ (L.getD i dCh).pe ≤ 9223372036854775807 := hE.ok.2.2.2.2
  have KA := HK.out
  have r0 := KA.cell (hr 0 _ rfl) (fun h => h)
  have r1 := KA.cell (hr 1 _ rfl) (fun h => h)
  have r2 := KA.cell (hr 2 _ rfl) (fun h => h)
  have r3 := KA.cell (hr 3 _ rfl) (fun h => h)
  have r4 := KA.cell (hr 4 _ rfl) (fun h => h)
  rw [Nat.add_zero] at r0
  have d0 := D.out _ (Kept.refl No _)
  obtain ⟨e0, e1, e2⟩ := d0
  obtain ⟨R, hR⟩ : ∃ R, R = chD ps L i (L.getD i dCh) := ⟨_, rfl⟩
  rw [← hR]
  unfold chD at hR
  generalize rfB ps L i (L.getD i dCh) = B1 at *
  generalize toF ps (L.take i) (L.getD i dCh).kd 0 (if (L.getD i dCh).fr = 0 then 0 else (poAt ps (L.getD i dCh).fr).sz) (L.getD i dCh).dst = B2 at *
  clear hL hP hE hx hT KA hlen hlp hr
  generalize L.getD i dCh = z at *
  obtain ⟨z0, z1, z2, z3, z4⟩ := z
  simp only [tmF] at r0 r1 r2 r3 r4 hR hpe
  have HR := hid hR
  have HPE := hid hpe
  have hi2 : (i : Int) < (n : Int) := by omega
  have HKB : Hid (Kept No w ((w.alloc (.cells #[v0, .slice a1 n1 c1, .slice (some ⟨bb, oo, none⟩) n c] 26)).alloc (.cells #[.int .i64 z0, .int .i64 z1, .slice ta tn tc, .int .i64 z3, .int .i64 z4] 34))) := HK.out.alloc _
  have DB : Hid (∀ W, Kept No ((w.alloc (.cells #[v0, .slice a1 n1 c1, .slice (some ⟨bb, oo, none⟩) n c] 26)).alloc (.cells #[.int .i64 z0, .int .i64 z1, .slice ta tn tc, .int .i64 z3, .int .i64 z4] 34)) W → W.cell? ⟨w.heap.size + 1, 0, none⟩ = some (.int .i64 z0) ∧ W.cell? ⟨w.heap.size + 1, 1, none⟩ = some (.int .i64 z1) ∧ W.cell? ⟨w.heap.size + 1, 3, none⟩ = some (.int .i64 z3) ∧ W.cell? ⟨w.heap.size + 1, 4, none⟩ = some (.int .i64 z4) ∧ W.cell? ⟨w.heap.size, 0, none⟩ = some v0 ∧ W.cell? ⟨w.heap.size, 1, none⟩ = some (.slice a1 n1 c1) ∧ W.cell? ⟨w.heap.size, 2, none⟩ = some (.slice (some ⟨bb, oo, none⟩) n c)) := fun W k => by
    have k2 : Kept No (w.alloc (.cells #[v0, .slice a1 n1 c1, .slice (some ⟨bb, oo, none⟩) n c] 26)) W := ((Kept.refl No _).alloc _).trans k (fun _ h => h.elim)
    obtain ⟨x0, x1, x2⟩ := D.out W k2
    exact ⟨k.cell (by simp) (fun h => h), k.cell (by simp) (fun h => h), k.cell (by simp) (fun h => h), k.cell (by simp) (fun h => h), x0, x1, x2⟩
  clear D hR hpe
  go_enter Tryz.func21, Tryz.ntmps21
  go_upto_region 2 with fail
  generalize (w.alloc (.cells #[v0, .slice a1 n1 c1, .slice (some ⟨bb, oo, none⟩) n c] 26)).alloc (.cells #[.int .i64 z0, .int .i64 z1, .slice ta tn tc, .int .i64 z3, .int .i64 z4] 34) = wB at *
  generalize w.heap.size = b0 at *
  obtain ⟨b1, hb1⟩ : ∃ b1, b1 = b0 + 1 := ⟨_, rfl⟩
  rw [← hb1] at DB
  rw [← hb1]
  clear r0 r1 r2 r3 r4 e0 e1 e2 hb1 HK
  obtain ⟨k0, k1, k3, k4, i0, i1, i2⟩ := DB.out wB (Kept.refl No _)
  have hfr := HFR.out wB HKB.out
  cases hk : inB z0 0 1
  · have HR1 : Hid (R = false) := by show R = false; rw [HR.out, hk]; rfl
    go_wp2_with (go_at_call 29; refine (rwithin_any _ _ _ _).mono ?_; rintro e w' ⟨rfl, rfl⟩; rw [hk])
    go_ret
    exact ⟨by rw [HR1.out]; rfl, HKB.out⟩
  cases B1
  · have HR1 : Hid (R = false) := by show R = false; rw [HR.out, hk]; rfl
    go_wp2_with (first
      | (go_at_call 29; refine (rwithin_any _ _ _ _).mono ?_; rintro e w' ⟨rfl, rfl⟩; rw [hk])
      | (go_at_call 35; refine hfr.mono ?_; rintro e w5 ⟨rfl, k5⟩; have HK5 : Hid (Kept No w w5) := HKB.out.trans k5 (fun _ h => h.elim); clear k5 hfr))
    go_ret
    exact ⟨by rw [HR1.out]; rfl, HK5.out⟩
  have HTT := hid (HTO.out rfl)
  clear HTO HFR
  cases B2
  · have HR1 : Hid (R = false) := by show R = false; rw [HR.out, hk]; rfl
    go_wp2_with (first
      | (go_at_call 29; refine (rwithin_any _ _ _ _).mono ?_; rintro e w' ⟨rfl, rfl⟩; rw [hk])
      | (go_at_call 35; refine hfr.mono ?_; rintro e w5 ⟨rfl, k5⟩; have HK5 : Hid (Kept No w w5) := HKB.out.trans k5 (fun _ h => h.elim); (obtain ⟨_, _, _, _, j0, j1, j2⟩ := DB.out w5 k5); clear k5 hfr)
      | (go_at_call 36; refine (HTT.out _ HK5.out).mono ?_; rintro e w6 ⟨rfl, k6⟩; have HK6 : Hid (Kept No w w6) := HK5.out.trans k6 (fun _ h => h.elim); clear k6 HTT j0 j1 j2))
    go_ret
    exact ⟨by rw [HR1.out]; rfl, HK6.out⟩
  have HR1 : Hid (R = (if z0 = 1 ∧ z1 ≠ 0 then inB z4 1 1048576 && inB z3 0 (z4 - 1) else (z4 == 0 && z3 == 0))) := by show R = _; rw [HR.out, hk]; rfl
  clear HR
  have hz : z0 = 0 ∨ z0 = 1 := by unfold inB at hk; simp only [Bool.and_eq_true, decide_eq_true_eq] at hk; omega
  have hw : z4 = 0 ∨ ((z4 == 0) = false ∧ decide (z4 = 0) = false) := by by_cases h : z4 = 0; exact .inl h; exact .inr ⟨by simp [h], by simp [h]⟩
  have hv : z1 = 0 ∨ ((z1 == 0) = false ∧ decide (z1 = 0) = false ∧ (z1 != 0) = true ∧ z1 ≠ 0) := by by_cases h : z1 = 0; exact .inl h; exact .inr ⟨by simp [h], by simp [h], by simp [h], h⟩
  have HW := hid hw
  clear hw
  rcases hz with rfl | rfl
  · clear hv
    have hq := hk
    rcases HW.out with rfl | ⟨hw1, hw2⟩
    · have HR2 : Hid (R = (z3 == 0)) := by show R = _; rw [HR1.out]; rfl
      clear HR1 HPE HW
      go_wp2_with (first
            | (go_at_call 29; refine (rwithin_any _ _ _ _).mono ?_; rintro e w' ⟨rfl, rfl⟩; (try simp only [hk, hq]))
            | (go_at_call 35; refine hfr.mono ?_; rintro e w5 ⟨rfl, k5⟩; have HK5 : Hid (Kept No w w5) := HKB.out.trans k5 (fun _ h => h.elim); have HQ5 := hid k5; (obtain ⟨_, _, _, _, j0, j1, j2⟩ := DB.out w5 k5); clear k5 hfr)
            | (go_at_call 36; refine (HTT.out _ HK5.out).mono ?_; rintro e w6 ⟨rfl, k6⟩; have HK6 : Hid (Kept No w w6) := HK5.out.trans k6 (fun _ h => h.elim); (obtain ⟨m0, m1, m3, m4, _, _, _⟩ := DB.out w6 (HQ5.out.trans k6 (fun _ h => h.elim))); clear k6 HTT j0 j1 j2))
      go_ret
      exact ⟨by rw [HR2.out]; rfl, HK6.out⟩
    · have HR2 : Hid (R = false) := by show R = _; rw [HR1.out, hw1]; rfl
      clear HR1 HPE HW
      go_wp2_with (first
            | (go_at_call 29; refine (rwithin_any _ _ _ _).mono ?_; rintro e w' ⟨rfl, rfl⟩; (try simp only [hk, hq]))
            | (go_at_call 35; refine hfr.mono ?_; rintro e w5 ⟨rfl, k5⟩; have HK5 : Hid (Kept No w w5) := HKB.out.trans k5 (fun _ h => h.elim); have HQ5 := hid k5; (obtain ⟨_, _, _, _, j0, j1, j2⟩ := DB.out w5 k5); clear k5 hfr)
            | (go_at_call 36; refine (HTT.out _ HK5.out).mono ?_; rintro e w6 ⟨rfl, k6⟩; have HK6 : Hid (Kept No w w6) := HK5.out.trans k6 (fun _ h => h.elim); (obtain ⟨m0, m1, m3, m4, _, _, _⟩ := DB.out w6 (HQ5.out.trans k6 (fun _ h => h.elim))); clear k6 HTT j0 j1 j2))
      go_ret
      exact ⟨by rw [HR2.out]; rfl, HK6.out⟩
  rcases hv with rfl | ⟨hv1, hv2, hv3, hv4⟩
  · have hq := hk
    rcases HW.out with rfl | ⟨hw1, hw2⟩
    · have HR2 : Hid (R = (z3 == 0)) := by show R = _; rw [HR1.out]; rfl
      clear HR1 HPE HW
      go_wp2_with (first
            | (go_at_call 29; refine (rwithin_any _ _ _ _).mono ?_; rintro e w' ⟨rfl, rfl⟩; (try simp only [hk, hq]))
            | (go_at_call 35; refine hfr.mono ?_; rintro e w5 ⟨rfl, k5⟩; have HK5 : Hid (Kept No w w5) := HKB.out.trans k5 (fun _ h => h.elim); have HQ5 := hid k5; (obtain ⟨_, _, _, _, j0, j1, j2⟩ := DB.out w5 k5); clear k5 hfr)
            | (go_at_call 36; refine (HTT.out _ HK5.out).mono ?_; rintro e w6 ⟨rfl, k6⟩; have HK6 : Hid (Kept No w w6) := HK5.out.trans k6 (fun _ h => h.elim); (obtain ⟨m0, m1, m3, m4, _, _, _⟩ := DB.out w6 (HQ5.out.trans k6 (fun _ h => h.elim))); clear k6 HTT j0 j1 j2))
      go_ret
      exact ⟨by rw [HR2.out]; rfl, HK6.out⟩
    · have HR2 : Hid (R = false) := by show R = _; rw [HR1.out, hw1]; rfl
      clear HR1 HPE HW
      go_wp2_with (first
            | (go_at_call 29; refine (rwithin_any _ _ _ _).mono ?_; rintro e w' ⟨rfl, rfl⟩; (try simp only [hk, hq]))
            | (go_at_call 35; refine hfr.mono ?_; rintro e w5 ⟨rfl, k5⟩; have HK5 : Hid (Kept No w w5) := HKB.out.trans k5 (fun _ h => h.elim); have HQ5 := hid k5; (obtain ⟨_, _, _, _, j0, j1, j2⟩ := DB.out w5 k5); clear k5 hfr)
            | (go_at_call 36; refine (HTT.out _ HK5.out).mono ?_; rintro e w6 ⟨rfl, k6⟩; have HK6 : Hid (Kept No w w6) := HK5.out.trans k6 (fun _ h => h.elim); (obtain ⟨m0, m1, m3, m4, _, _, _⟩ := DB.out w6 (HQ5.out.trans k6 (fun _ h => h.elim))); clear k6 HTT j0 j1 j2))
      go_ret
      exact ⟨by rw [HR2.out]; rfl, HK6.out⟩
  clear HW
  cases hq : inB z4 1 1048576
  · have HR2 : Hid (R = false) := by show R = _; rw [HR1.out, if_pos ⟨rfl, hv4⟩, hq]; rfl
    clear HR1 HPE
    go_wp2_with (first
          | (go_at_call 29; refine (rwithin_any _ _ _ _).mono ?_; rintro e w' ⟨rfl, rfl⟩; (try simp only [hk, hq]))
          | (go_at_call 35; refine hfr.mono ?_; rintro e w5 ⟨rfl, k5⟩; have HK5 : Hid (Kept No w w5) := HKB.out.trans k5 (fun _ h => h.elim); have HQ5 := hid k5; (obtain ⟨_, _, _, _, j0, j1, j2⟩ := DB.out w5 k5); clear k5 hfr)
          | (go_at_call 36; refine (HTT.out _ HK5.out).mono ?_; rintro e w6 ⟨rfl, k6⟩; have HK6 : Hid (Kept No w w6) := HK5.out.trans k6 (fun _ h => h.elim); (obtain ⟨m0, m1, m3, m4, _, _, _⟩ := DB.out w6 (HQ5.out.trans k6 (fun _ h => h.elim))); clear k6 HTT j0 j1 j2))
    go_ret
    exact ⟨by rw [HR2.out]; rfl, HK6.out⟩
  · have HR2 : Hid (R = inB z3 0 (z4 - 1)) := by show R = _; rw [HR1.out, if_pos ⟨rfl, hv4⟩, hq]; rfl
    have hb4 : 1 ≤ z4 ∧ z4 ≤ 1048576 := by unfold inB at hq; simp only [Bool.and_eq_true, decide_eq_true_eq] at hq; omega
    clear HR1 HPE
    go_wp2_with (first
          | (go_at_call 29; refine (rwithin_any _ _ _ _).mono ?_; rintro e w' ⟨rfl, rfl⟩; (try simp only [hk, hq]))
          | (go_at_call 35; refine hfr.mono ?_; rintro e w5 ⟨rfl, k5⟩; have HK5 : Hid (Kept No w w5) := HKB.out.trans k5 (fun _ h => h.elim); have HQ5 := hid k5; (obtain ⟨_, _, _, _, j0, j1, j2⟩ := DB.out w5 k5); clear k5 hfr)
          | (go_at_call 36; refine (HTT.out _ HK5.out).mono ?_; rintro e w6 ⟨rfl, k6⟩; have HK6 : Hid (Kept No w w6) := HK5.out.trans k6 (fun _ h => h.elim); (obtain ⟨m0, m1, m3, m4, _, _, _⟩ := DB.out w6 (HQ5.out.trans k6 (fun _ h => h.elim))); clear k6 HTT j0 j1 j2))
    go_ret
    exact ⟨by rw [HR2.out]; rfl, HK6.out⟩
end Go.Proofs.YtggejpccjmolhaaGreatDoor
