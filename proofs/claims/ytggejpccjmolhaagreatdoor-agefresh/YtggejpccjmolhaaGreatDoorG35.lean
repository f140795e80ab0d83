/-
  One text: AFr, AOf, ARw.
-/
import Derived.Test.YtggejpccjmolhaaGreatDoorG34
import Derived.Test.YtggejpccjmolhaaGreatDoorG31
namespace Go.Proofs.YtggejpccjmolhaaGreatDoor
open Go.RowKit Plain
set_option linter.unusedVariables false
set_option linter.unusedSimpArgs false
set_option maxRecDepth 100000

def rfB (ps : List Po) (L : List Ch) (i : Nat) (c : Ch) : Bool := if c.fr = 0 then decide (0 < c.dst.length) else fitB ps c.fr true c.kd && !((L.take i).any fun o => o.fr == c.fr)

set_option maxHeartbeats 16000000 in
theorem rfrom_any (F : Nat → Prop) (v0 : Value) (a1 : Option Addr) (n1 c1 : Nat) (ps : List Po) (a : Option Addr) (n c : Nat) (L : List Ch) (i : Nat) (w : World) (hi : i < n) (hP : Ls 6 elPo w F a1 n1 c1 ps) (hL : Ls 5 elCh w F a n c L) :
    Calls Tryz.prog 35 #[.agg #[v0, .slice a1 n1 c1, .slice a n c], .int .i64 (i : Int)] w fun e w' => e = .returned (.bool (rfB ps L i (L.getD i dCh))) ∧ Kept No w w' := by
  have hn : n ≤ 9223372036854775807 := Nat.le_trans hL.cap hL.max
  have hn1 : n1 ≤ 9223372036854775807 := Nat.le_trans hP.cap hP.max
  have HK : Hid (Kept No w (w.alloc (.cells #[v0, .slice a1 n1 c1, .slice a n c] 26))) := (Kept.refl No w).alloc _
  have D : Hid (∀ W, Kept No (w.alloc (.cells #[v0, .slice a1 n1 c1, .slice a n c] 26)) W → W.cell? ⟨w.heap.size, 0, none⟩ = some v0 ∧ W.cell? ⟨w.heap.size, 1, none⟩ = some (.slice a1 n1 c1) ∧ W.cell? ⟨w.heap.size, 2, none⟩ = some (.slice a n c)) := fun W k => ⟨k.cell (by simp) (fun h => h), k.cell (by simp) (fun h => h), k.cell (by simp) (fun h => h)⟩
  have hlen : L.length = n := hL.len
  have hlp : ps.length = n1 := hP.len
  have hx : L[i]? = some (L.getD i dCh) := by rw [List.getD, List.getElem?_eq_getElem (by omega)]; rfl
  obtain ⟨bb, oo, ds, rfl, _, _, hr, hE⟩ := hL.at' i _ hx
  obtain ⟨ta, tn, tc, rfl, hT⟩ := hE.sl
  have htn := hT.len
  have htm : tn ≤ 9223372036854775807 := Nat.le_trans hT.cap hT.max
  have HFD : Hid (∀ (W : World) (v : Value) (port : Int), Kept No w W → Calls Tryz.prog 45 #[.agg #[v0, v, .slice (some ⟨bb, oo, none⟩) n c], .int .i64 (i : Int), .int .i64 port, .bool true] W fun e w' => e = .returned (.bool ((L.take i).any fun o => o.fr == port)) ∧ Kept No W w') := fun W v port k => fed_out F v0 v _ n c L i port W (by omega) (hL.kept k (fun _ _ h => h) (elCh_kept k (fun _ _ h => h)))
  have HP : Hid (Ls 6 elPo w F a1 n1 c1 ps) := hP
  have KA := HK.out
  have r0 := KA.cell (hr 0 _ rfl) (fun h => h)
  have r1 := KA.cell (hr 1 _ rfl) (fun h => h)
  have r2 := KA.cell (hr 2 _ rfl) (fun h => h)
  have r3 := KA.cell (hr 3 _ rfl) (fun h => h)
  have r4 := KA.cell (hr 4 _ rfl) (fun h => h)
  rw [Nat.add_zero] at r0
  obtain ⟨R, hR⟩ : ∃ R, R = rfB ps L i (L.getD i dCh) := ⟨_, rfl⟩
  rw [← hR]
  have HR : Hid (R = rfB ps L i (L.getD i dCh)) := hR
  clear hR hL hP hE hr hx hT KA
  generalize L.getD i dCh = z at *
  obtain ⟨z0, z1, z2, z3, z4⟩ := z
  simp only at r0 r1 r2 r3 r4 htn
  have hi2 : (i : Int) < (n : Int) := by omega
  have d0 := D.out _ (Kept.refl No _)
  obtain ⟨e0, e1, e2⟩ := d0
  have HKB : Hid (∀ o, Kept No w ((w.alloc (.cells #[v0, .slice a1 n1 c1, .slice (some ⟨bb, oo, none⟩) n c] 26)).alloc o)) := fun o => HK.out.alloc o
  by_cases g0 : z1 = 0
  · subst g0
    have HR2 : Hid (R = decide (0 < tn)) := by
      have h := HR.out
      unfold rfB at h
      rw [if_pos rfl] at h
      rw [← htn]
      exact h
    go_enter Tryz.func35, Tryz.ntmps35
    by_cases ht : 0 < tn
    · have ht2 : (0 : Int) < (tn : Int) := by omega
      go_wp2
      go_ret
      exact ⟨by rw [HR2.out, decide_eq_true ht]; first | rfl | simp [ht], HKB.out _⟩
    · have ht2 : tn = 0 := by omega
      subst ht2
      go_wp2
      go_ret
      exact ⟨by rw [HR2.out]; rfl, HKB.out _⟩
  · have g01 : (z1 == 0) = false := by simpa using g0
    have HR2 : Hid (R = (fitB ps z1 true z0 && !((L.take i).any fun o => o.fr == z1))) := by
      have h := HR.out
      unfold rfB at h
      rw [if_neg g0] at h
      exact h
    clear HR
    cases hb : inB z1 1 n1
    · have HR3 : Hid (R = false) := by
        rw [HR2.out]; unfold fitB; rw [hlp, hb]; rfl
      go_enter Tryz.func35, Tryz.ntmps35
      go_wp2_with (go_at_call 29; refine (rwithin_any _ _ _ _).mono ?_; rintro e w' ⟨rfl, rfl⟩)
      go_ret
      exact ⟨by rw [HR3.out]; rfl, HKB.out _⟩
    · have hr1 : 1 ≤ z1 ∧ z1 ≤ n1 := by simp [inB] at hb; exact hb
      obtain ⟨j, pb, po, hj, hjn, rfl, hok, p0, p1, p2, p3, p4, p5⟩ := po_at (HP.out.kept (HKB.out (.cells #[.int .i64 z0, .int .i64 z1, .slice ta tn tc, .int .i64 z3, .int .i64 z4] 34)) (fun _ _ h => h) (elPo_kept (HKB.out _) (fun _ _ h => h))) hr1.1 hr1.2
      subst hj
      have HR3 : Hid (R = ((poAt ps ((j : Int) + 1)).out == true && ((poAt ps ((j : Int) + 1)).kd == z0) && !((L.take i).any fun o => o.fr == ((j : Int) + 1)))) := by
        rw [HR2.out]; unfold fitB; rw [hlp, hb]; rfl
      clear HR2 hok
      generalize poAt ps ((j : Int) + 1) = y at *
      obtain ⟨y0, y1, y2, y3, y4, y5⟩ := y
      simp only at p0 p1 p2 p3 p4 p5 HR3
      have HKC : Hid (∀ o, Kept No w (((w.alloc (.cells #[v0, .slice (some ⟨pb, po, none⟩) n1 c1, .slice (some ⟨bb, oo, none⟩) n c] 26)).alloc (.cells #[.int .i64 z0, .int .i64 ((j : Int) + 1), .slice ta tn tc, .int .i64 z3, .int .i64 z4] 34)).alloc o)) := fun o => (HKB.out _).alloc o
      obtain ⟨fb, hq⟩ : ∃ fb, fb = ((L.take i).any fun o => o.fr == ((j : Int) + 1)) := ⟨_, rfl⟩
      rw [← hq] at HR3
      have hjn2 : (j : Int) < (n1 : Int) := by omega
      cases y2
      · have HR4 : Hid (R = false) := HR3.out.trans (by simp)
        go_enter Tryz.func35, Tryz.ntmps35
        go_wp2_with (go_at_call 29; refine (rwithin_any _ _ _ _).mono ?_; rintro e w' ⟨rfl, rfl⟩; rw [hb])
        go_ret
        exact ⟨by rw [HR4.out]; rfl, HKC.out _⟩
      · by_cases hy : y1 = z0
        · subst hy
          have HR4 : Hid (R = !fb) := HR3.out.trans (by simp)
          clear HR3
          go_enter Tryz.func35, Tryz.ntmps35
          go_upto_region 7 with (go_at_call 29; refine (rwithin_any _ _ _ _).mono ?_; rintro e w' ⟨rfl, rfl⟩; rw [hb])
          go_wp2_with fail
          refine (HFD.out _ _ _ (HKC.out _)).mono ?_
          rintro e w5 ⟨rfl, k5⟩
          rw [← hq]
          have K5 : Hid (Kept No w w5) := (HKC.out _).trans k5 (fun _ h => h.elim)
          clear k5 hq
          cases fb
          · go_wp2
            go_ret
            exact ⟨by rw [HR4.out]; rfl, K5.out⟩
          · go_wp2
            go_ret
            exact ⟨by rw [HR4.out]; rfl, K5.out⟩
        · have hy1 : (y1 == z0) = false := by simpa using hy
          have HR4 : Hid (R = false) := HR3.out.trans (by rw [hy1]; simp)
          go_enter Tryz.func35, Tryz.ntmps35
          go_wp2_with (go_at_call 29; refine (rwithin_any _ _ _ _).mono ?_; rintro e w' ⟨rfl, rfl⟩; rw [hb])
          go_ret
          exact ⟨by rw [HR4.out]; rfl, HKC.out _⟩
end Go.Proofs.YtggejpccjmolhaaGreatDoor

namespace Go.Proofs.YtggejpccjmolhaaGreatDoor
open Go.RowKit Plain
set_option linter.unusedVariables false
set_option linter.unusedSimpArgs false
set_option maxRecDepth 100000

set_option maxHeartbeats 8000000 in
theorem rof_any (F : Nat → Prop) (v1' v2' : Value) (a : Option Addr) (n c : Nat) (xs : List Pn) (w : World) (h : Ls 21 elPn w F a n c xs) (hn : n ≤ 70000) :
    Calls Tryz.prog 17 #[.agg #[.slice a n c, v1', v2']] w fun e w' => ∃ v, e = .returned v ∧ w'.ownsRow (w.heap.size + 1) 50 4 v n (fl (svs xs)) ∧ Kept No w w' := by
  obtain ⟨i0, hi, hz0, hz1, hz2⟩ := info_parts Tryz.infoS
  have H : Hid (Ls 21 elPn w F a n c xs) := h
  have HK0 : Hid (Kept No w (w.alloc (.cells #[.slice a n c, v1', v2'] 26))) := (Kept.refl No w).alloc _
  have D : Hid (∀ W, Kept No (w.alloc (.cells #[.slice a n c, v1', v2'] 26)) W → W.cell? ⟨w.heap.size, 0, none⟩ = some (.slice a n c)) := fun W k => k.cell (by simp) (fun h => h)
  have HSZ : Hid ((w.alloc (.cells #[.slice a n c, v1', v2'] 26)).heap.size = w.heap.size + 1) := by
    show _ = _
    simp
  clear h
  go_enter Tryz.func17, Tryz.ntmps17
  go_upto_region 1 with fail
  generalize w.alloc (.cells #[.slice a n c, v1', v2'] 26) = wA at *
  go_wp2
  go_loopw [3, 4] (fun v x wr => ∃ k : Nat, k ≤ n ∧ x = .int .i64 k ∧ Kept No wA wr ∧ wr.ownsRow (w.heap.size + 1) 50 4 v k (fl ((svs xs).take k))) (fun _ x _ => n - (intOf x).toNat)
  case atStart => exact ⟨0, by omega, rfl, Kept.refl No wA, ⟨rfl, .inl ⟨rfl, rfl⟩⟩⟩
  case round =>
    obtain ⟨k, hk, rfl, hkA, hown⟩ := hrel
    have hkr : Kept No w wr := HK0.out.trans hkA (fun _ h => h.elim)
    have HKA : Hid (Kept No wA wr) := hkA
    have d00 := D.out wr hkA
    clear hkA
    by_cases hlt : k < n
    · have hx : xs[k]? = some (xs.getD k dPn) := by rw [List.getD, List.getElem?_eq_getElem (by rw [H.out.len]; exact hlt)]; rfl
      obtain ⟨b, o, cs, rfl, hb, hl, hr, hE⟩ := H.out.at' k _ hx
      have HNX : Hid (fl ((svs xs).take (k + 1)) = fl ((svs xs).take k) ++ fl [pnSv (xs.getD k dPn)]) := by
        show fl ((svs xs).take (k + 1)) = _
        rw [← fl_app, List.take_add_one, svs, List.getElem?_map, hx]
        rfl
      have HL : Hid ((fl ((svs xs).take k)).length = k * 4) := by show (fl ((svs xs).take k)).length = k * 4; rw [fl_len, List.length_take, svs, List.length_map, H.out.len]; congr 1; omega
      generalize fl ((svs xs).take k) = L0 at *
      generalize xs.getD k dPn = y at *
      obtain ⟨ya, yb, yc, yd, cs0, he⟩ : ∃ ya yb yc yd cs0, cs = .int .i64 ya :: .int .i64 yb :: .int .i64 yc :: .int .i64 yd :: cs0 := by
        obtain ⟨a0, n0, c0, a1, n1, c1, a2, n2, c2, a3, n3, c3, a4, n4, c4, a5, n5, c5, e, _⟩ := hE.sl
        exact ⟨_, _, _, _, _, e⟩
      have hy : pnSv y = ⟨ya, yb, yc, yd⟩ := by
        obtain ⟨a0, n0, c0, a1, n1, c1, a2, n2, c2, a3, n3, c3, a4, n4, c4, a5, n5, c5, e, _⟩ := hE.sl
        rw [he] at e
        simp only [List.cons.injEq, Value.int.injEq, true_and] at e
        obtain ⟨e1, e2, e3, e4, _⟩ := e
        rw [pnSv, e1, e2, e3, e4]
      rw [hy] at HNX
      have hcap : k ≤ c := by have := H.out.cap; omega
      have hmx := H.out.max
      have hn' : n ≤ 9223372036854775807 := by omega
      have hgk : (k : Int) < (n : Int) := by omega
      have HOW : Hid (wr.ownsRow (w.heap.size + 1) 50 4 u3 k L0) := hown
      have HW : Hid (Kept No w wr) := hkr
      rw [he] at hr
      have d0 := hkr.cell (hr 0 _ rfl) (fun h => h)
      have d1 := hkr.cell (hr 1 _ rfl) (fun h => h)
      have d2 := hkr.cell (hr 2 _ rfl) (fun h => h)
      have d3 := hkr.cell (hr 3 _ rfl) (fun h => h)
      rw [Nat.add_zero] at d0
      clear hkr hr hl hE hx hown hb he hy
      go_wp2_with (at_builtin; refine wpList_append_own_at _ rfl _ _ 61 rfl (w.heap.size + 1) 50 i0 (.agg #[.int .i64 0, .int .i64 0, .int .i64 0, .int .i64 0]) 4 32 Tryz.underlying61 hi hz0 hz1 hz2 rfl (by decide) _ _ _ rfl (HOW.out.alloc _) ⟨wr.heap.size, 0, none⟩ 1 1 (fl [⟨ya, yb, yc, yd⟩]) rfl rfl (cell_four wr ⟨ya, yb, yc, yd⟩ _) (fl_one _) (by unfold maxLen; omega) (by omega) (by have := HW.out.size; simp; omega) ?_; intro v1 w6 own1 grow1 _ at1)
      have HK6 : Hid (Kept No wA w6 ∧ w6.ownsRow (w.heap.size + 1) 50 4 v1 (k + 1) (fl ((svs xs).take (k + 1)))) := by
        exact ⟨(HKA.out.alloc _).grown grow1 (fun g e => .inr (by rw [HSZ.out]; exact (HOW.out.lt g e).1)), by rw [HNX.out]; exact own1⟩
      clear own1 grow1 at1
      go_wp2
      go_roundw
      case rel => exact ⟨k + 1, by omega, by go_num, HK6.out.1, HK6.out.2⟩
      case measure => simp [intOf]; omega
    · have hke : k = n := by omega
      subst hke
      have HO : Hid (wr.ownsRow (w.heap.size + 1) 50 4 u3 k (fl (svs xs))) := by
        rw [List.take_of_length_le (by rw [svs, List.length_map, H.out.len]; exact Nat.le_refl _)] at hown
        exact hown
      have HKR : Hid (Kept No w wr) := hkr
      clear hown hkr
      go_wp2
      go_ret
      exact ⟨_, rfl, HO.out, HKR.out⟩
end Go.Proofs.YtggejpccjmolhaaGreatDoor

namespace Go.Proofs.YtggejpccjmolhaaGreatDoor
open Go.RowKit Plain
set_option linter.unusedVariables false
set_option linter.unusedSimpArgs false
set_option maxRecDepth 100000

theorem eachF_all {r : Nat → Int} {p : Nat → Bool} {e first : Int} (he : e ≠ 0) : ∀ n, (∀ i, i < n → r i = if p i then 0 else e) → fe (eachF r first n) = (if allF p n then 0 else e) ∧ (allF p n = true ↔ eachF r first n = none)
  | 0, _ => ⟨rfl, ⟨fun _ => rfl, fun _ => rfl⟩⟩
  | n + 1, h => by
    obtain ⟨h1, h2⟩ := eachF_all he n (fun i hi => h i (by omega))
    have h3 := h n (by omega)
    cases hx : eachF r first n with
    | some q =>
      have ha : allF p n = false := by
        cases ha : allF p n with
        | false => rfl
        | true => rw [h2.1 ha] at hx; cases hx
      rw [hx] at h1
      rw [eachF, hx]
      simp only [allF, ha, Bool.false_and]
      rw [ha] at h1
      exact ⟨h1, by simp⟩
    | none =>
      have ha : allF p n = true := h2.2 hx
      rw [eachF, hx]
      simp only [allF, ha, Bool.true_and]
      cases hp : p n with
      | true =>
        rw [hp] at h3
        have h4 : r n = 0 := h3
        rw [if_pos h4]
        exact ⟨rfl, by simp⟩
      | false =>
        rw [hp] at h3
        have h4 : r n = e := h3
        have h5 : ¬ r n = 0 := by rw [h4]; exact he
        rw [if_neg h5, h4]
        exact ⟨rfl, by simp⟩
def dPrc : Prc := ⟨0, 0, 0, 0, 0, false⟩
/-- the document's first error of a partition -/
def rptE (y : Pn) : Int :=
  if !inB y.fi 0 y.wo || decide (y.wo < (y.init.length : Int)) then 110 else if y.code.length = 0 then 104 else if allF (fun i => rpB y.code.length (y.procs.getD i dPrc)) y.procs.length = false then 105 else if (allF (smP y.sems) y.sems.length && allF (bfP y.bufs) y.bufs.length) = false then 106 else if (hlF (hv8 y.h0 y.h1 y.h2 y.h3 y.h4 y.h5 y.h6 y.h7) 8 && hanF y.ha y.procs y.procs.length) = false then 109 else 0
theorem hl8 (h0 h1 h2 h3 h4 h5 h6 h7 : Int) : hlF (hv8 h0 h1 h2 h3 h4 h5 h6 h7) 8 = ((h0 == 0) && actF (hv8 h0 h1 h2 h3 h4 h5 h6 h7) 8) := by
  have e : (h0 == 0) = !(h0 != 0) := by simp [bne]
  simp [hlF, actF, hv8, e]
  cases inB h0 0 5 <;> cases (h0 == 0) <;> simp [Bool.and_assoc]
theorem ePt_rows (y : Pn) (hc : y.code.length ≤ 9223372036854775807) : rowsF (ePt y) 9 = rptE y := by
  have r3 := (eachF_all (e := 105) (first := 1) (p := fun i => rpB y.code.length (y.procs.getD i dPrc)) (by decide) y.procs.length (fun i _ => rpB_rows (cl := (y.code.length : Int)) (y.procs.getD i dPrc) ⟨by omega, by omega⟩)).1
  have r4 := (eachF_all (r := fun i => rowsF (fun j => if bSm (y.sems.getD i dSm) j then 0 else 106) 2) (e := 106) (first := 1) (p := smP y.sems) (by decide) y.sems.length (fun i _ => by
    have e0 : bSm (y.sems.getD i dSm) 0 = inB (y.sems.getD i dSm).mx 1 2147483647 := rfl
    have e1 : bSm (y.sems.getD i dSm) 1 = inB (y.sems.getD i dSm).st 0 (y.sems.getD i dSm).mx := rfl
    unfold smP; rw [← e0, ← e1]; simp only [rowsF]
    cases bSm (y.sems.getD i dSm) 0 <;> cases bSm (y.sems.getD i dSm) 1 <;> rfl)).1
  have r5 := (eachF_all (r := fun i => rowsF (fun j => if bBf (y.bufs.getD i dBf) j then 0 else 106) 2) (e := 106) (first := 1) (p := bfP y.bufs) (by decide) y.bufs.length (fun i _ => by
    have e0 : bBf (y.bufs.getD i dBf) 0 = inB (y.bufs.getD i dBf).sz 1 16 := rfl
    have e1 : bBf (y.bufs.getD i dBf) 1 = inB (y.bufs.getD i dBf).dp 1 64 := rfl
    unfold bfP; rw [← e0, ← e1]; simp only [rowsF]
    cases bBf (y.bufs.getD i dBf) 0 <;> cases bBf (y.bufs.getD i dBf) 1 <;> rfl)).1
  have q0 : ePt y 0 = if inB y.fi 0 y.wo then 0 else 110 := rfl
  have q1 : ePt y 1 = if decide ((y.init.length : Int) ≤ y.wo) then 0 else 110 := rfl
  have q2 : ePt y 2 = if decide ((y.code.length : Int) > 0) then 0 else 104 := rfl
  have q3 : ePt y 3 = _ := r3
  have q4 : ePt y 4 = _ := r4
  have q5 : ePt y 5 = _ := r5
  have q6 : ePt y 6 = if y.h0 == 0 then 0 else 109 := rfl
  have q7 : ePt y 7 = if actF (hv8 y.h0 y.h1 y.h2 y.h3 y.h4 y.h5 y.h6 y.h7) 8 then 0 else 109 := rfl
  have q8 : ePt y 8 = if hanF y.ha y.procs y.procs.length then 0 else 109 := rfl
  have b1 : decide (y.wo < (y.init.length : Int)) = !decide ((y.init.length : Int) ≤ y.wo) := by
    by_cases h : (y.init.length : Int) ≤ y.wo
    · rw [decide_eq_true h, decide_eq_false (by omega)]; rfl
    · rw [decide_eq_false h, decide_eq_true (by omega)]; rfl
  unfold rptE
  rw [hl8, b1]
  simp only [rowsF]
  rw [q0, q1, q2, q3, q4, q5, q6, q7, q8]
  clear q0 q1 q2 q3 q4 q5 q6 q7 q8 r3 r4 r5 b1
  generalize allF (fun i => rpB y.code.length (y.procs.getD i dPrc)) y.procs.length = x3
  generalize allF (smP y.sems) y.sems.length = x4
  generalize allF (bfP y.bufs) y.bufs.length = x5
  generalize actF (hv8 y.h0 y.h1 y.h2 y.h3 y.h4 y.h5 y.h6 y.h7) 8 = x7
  generalize hanF y.ha y.procs y.procs.length = x8
  generalize (y.h0 == 0) = x6
  generalize inB y.fi 0 y.wo = x0
  generalize decide ((y.init.length : Int) ≤ y.wo) = x1
  by_cases hz : y.code.length = 0
  · have : decide ((y.code.length : Int) > 0) = false := decide_eq_false (by omega)
    rw [this, if_pos hz]
    cases x0 <;> cases x1 <;> simp
  · have : decide ((y.code.length : Int) > 0) = true := decide_eq_true (by omega)
    rw [this, if_neg hz]
    cases x0 <;> cases x1 <;> cases x3 <;> cases x4 <;> cases x5 <;> cases x6 <;> cases x7 <;> cases x8 <;> rfl
end Go.Proofs.YtggejpccjmolhaaGreatDoor
