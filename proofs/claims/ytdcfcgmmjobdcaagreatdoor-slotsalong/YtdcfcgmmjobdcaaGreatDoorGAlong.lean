/-
  One text: SAlongW, SAlongL.
-/
import Derived.Test.YtdcfcgmmjobdcaaGreatDoorGLives
namespace Go.Proofs.YtdcfcgmmjobdcaaGreatDoor
open Go.RowKit Go.Shelf Plain
set_option linter.unusedVariables false
set_option maxRecDepth 100000

/-- who has come to tick t with 'last' behind it -/
def Lst2 (P C : List (Int × Int)) (H t : Nat) (last : Int) : Prop := ∀ q, Slt.Sits P C H t q → Slt.who P C H t q = last → t % H = 0

set_option maxHeartbeats 16000000 in
theorem salong_in {F G : Nat → Prop} {a0 a1 : Option Addr} {c0 c1 : Nat} {P C : List (Int × Int)} {H : Nat} (fr st pb : Nat) (w : World) (hg : Gl w) (h : Sl w F a0 P.length c0 P) (hF : ∀ k, F k → k < w.heap.size) (h' : Sl w G a1 C.length c1 C) (hG : ∀ k, G k → k < w.heap.size)
    (hT : Slt.Tab P C H) (hP : P.length ≤ 300000) (hC : C.length ≤ 300000) (hfr : fr < 1099511627776) (hst : st ≤ 100) (hpb : pb ≤ 9223372036854775807) :
    Calls Tryz.prog 4 #[.agg #[.slice a0 P.length c0, .slice a1 C.length c1], .int .i64 fr, .int .i64 st, .int .i64 pb] w fun e w' => e = .returned (.bool true) ∧ Below w.heap.size w w' := by
  have k1 : Kept No w (w.alloc (.cells #[.slice a0 P.length c0, .slice a1 C.length c1] 29)) := (Kept.refl No w).alloc _
  have hv := valid_any _ (h.keep k1) (fun k hk => Nat.lt_of_lt_of_le (hF k hk) k1.size) (h'.keep k1) (fun k hk => Nat.lt_of_lt_of_le (hG k hk) k1.size)
  have hH1 := hT.pos
  have hH2 := hT.top
  rw [tab_hyF hT, if_neg (by omega)] at hv
  have hb := World.alloc_heap_new w (.cells #[.slice a0 P.length c0, .slice a1 C.length c1] 29)
  have HTk : Hid (Tk w a0 P.length c0 a1 C.length c1 P C H ∧ Slt.Tab P C H) := ⟨tk_of w h hF h' hG hT, hT⟩
  have HSP : Hid (Sl w F a0 P.length c0 P ∧ Sl w G a1 C.length c1 C ∧ (∀ k, F k → k < w.heap.size) ∧ (∀ k, G k → k < w.heap.size)) := ⟨h, h', hF, hG⟩
  have HK : Hid (Kept No w (w.alloc (.cells #[.slice a0 P.length c0, .slice a1 C.length c1] 29)) ∧ (w.alloc (.cells #[.slice a0 P.length c0, .slice a1 C.length c1] 29)).heap[w.heap.size]? = some (.cells #[.slice a0 P.length c0, .slice a1 C.length c1] 29) ∧ Gl w) := ⟨k1, hb, hg⟩
  clear h h' hF hG k1 hg hT
  obtain ⟨b0, b1⟩ := bx2 hb
  clear hb
  have q2 : ∀ (w : World) (ad : Addr), (binOp .eql 39 (.pointer (some ad)) (.pointer none)).run Tryz.prog w = .ok (.bool false) w := fun w ad => by rfl
  have HFR : Hid (fr < 1099511627776 ∧ st ≤ 100 ∧ pb ≤ 9223372036854775807) := ⟨hfr, hst, hpb⟩
  obtain ⟨zf, ezf⟩ : ∃ z : Int, (fr : Int) = z := ⟨_, rfl⟩
  obtain ⟨zs, ezs⟩ : ∃ z : Int, (st : Int) = z := ⟨_, rfl⟩
  obtain ⟨zp, ezp⟩ : ∃ z : Int, (pb : Int) = z := ⟨_, rfl⟩
  obtain ⟨zH, ezH⟩ : ∃ z : Int, (H : Int) = z := ⟨_, rfl⟩
  obtain ⟨zP, ezP⟩ : ∃ z : Int, (P.length : Int) = z := ⟨_, rfl⟩
  obtain ⟨zC, ezC⟩ : ∃ z : Int, (C.length : Int) = z := ⟨_, rfl⟩
  have f1 : 0 ≤ zf := by omega
  have f2 : zf < 1099511627776 := by omega
  have f3 : 0 ≤ zs := by omega
  have f4 : zs ≤ 100 := by omega
  have f5 : 0 ≤ zp := by omega
  have f6 : zp ≤ 9223372036854775807 := by omega
  have f7 : 1 ≤ zH := by omega
  have f8 : zH ≤ 1048576 := by omega
  have f9 : zP ≤ 300000 := by omega
  have f10 : zC ≤ 300000 := by omega
  have HZ : Hid ((fr : Int) = zf ∧ (st : Int) = zs ∧ (pb : Int) = zp ∧ (H : Int) = zH) := ⟨ezf, ezs, ezp, ezH⟩
  rw [ezf, ezs, ezp]
  clear ezf ezs ezp ezH hfr hst hpb hH1 hH2
  go_enter Tryz.func4, Tryz.ntmps4
  go_upto_region 3 with (go_at_call 16; refine hv.mono ?_; rintro e w1 ⟨rfl, hk1⟩; have H1 : Hid (Kept No w w1 ∧ w1.heap[w.heap.size]? = some (.cells #[.slice a0 P.length c0, .slice a1 C.length c1] 29)) := ⟨HK.out.1.trans hk1 (fun _ h => h.elim), hk1.at' HK.out.2.1 (fun h => h)⟩; obtain ⟨d0, d1⟩ := bx2 H1.out.2; clear hk1 hv)
  clear b0 b1 ezP ezC f9 f10 hP hC
  have tt0 := total_any w1 (HSP.out.1.keep H1.out.1) HTk.out.2.p
  rw [HTk.out.2.hp, HZ.out.2.2.2] at tt0
  go_upto_region 4 with (go_at_call 12; refine tt0.mono ?_; rintro e w2 ⟨rfl, hk2⟩; have H2 : Hid (Kept No w w2 ∧ w2.heap[w.heap.size]? = some (.cells #[.slice a0 P.length c0, .slice a1 C.length c1] 29)) := ⟨H1.out.1.trans hk2 (fun _ h => h.elim), hk2.at' H1.out.2 (fun h => h)⟩; clear hk2 tt0)
  clear d0 d1
  obtain ⟨d0, d1⟩ := bx2 H2.out.2
  have wl := walk_yes w2 (HSP.out.1.keep H2.out.1) (fun k hk => Nat.lt_of_lt_of_le (HSP.out.2.2.1 k hk) H2.out.1.size) (HSP.out.2.1.keep H2.out.1) (fun k hk => Nat.lt_of_lt_of_le (HSP.out.2.2.2 k hk) H2.out.1.size) HTk.out.2
  go_upto_region 5 with (go_at_call 17; refine wl.mono ?_; rintro e w3 ⟨b, rfl, hw3, hk3⟩; have H3 : Hid (Wk w3 (fun k => w2.heap.size ≤ k) b P C H 0 ∧ Kept No w w3 ∧ w3.heap[w.heap.size]? = some (.cells #[.slice a0 P.length c0, .slice a1 C.length c1] 29) ∧ w.heap.size < w2.heap.size) := ⟨hw3, H2.out.1.trans hk3 (fun _ h => h.elim), hk3.at' H2.out.2 (fun h => h), heap_lt H2.out.2⟩; clear hw3 hk3 wl)
  clear d0 d1
  have ad := wadv_yes w3 H3.out.1 HTk.out.2 (Nat.zero_le fr) HFR.out.1
  rw [HZ.out.1] at ad
  go_upto_region 7 with (first
    | (go_at_call 18; refine ad.mono ?_; rintro e w4 ⟨rfl, hw4, hk4⟩; have H4 : Hid (Wk w4 (fun k => w2.heap.size ≤ k) b P C H fr ∧ Kept No w w4 ∧ w4.heap[w.heap.size]? = some (.cells #[.slice a0 P.length c0, .slice a1 C.length c1] 29)) := ⟨hw4, H3.out.2.1.trans hk4 (fun k h => .inr (by have := H3.out.2.2.2; omega)), hk4.at' H3.out.2.2.1 (fun h => by have := H3.out.2.2.2; omega)⟩; clear hw4 hk4 ad; have hl := lives_any w4 (HK.out.2.2.kept H4.out.2.1))
    | (go_at_call 11; refine hl.mono ?_; rintro e w5 ⟨rfl, hk5⟩; have H5 : Hid (Wk w5 (fun k => w2.heap.size ≤ k) b P C H fr ∧ Kept No w w5 ∧ w5.heap[w.heap.size]? = some (.cells #[.slice a0 P.length c0, .slice a1 C.length c1] 29)) := ⟨H4.out.1.keep hk5, H4.out.2.1.trans hk5 (fun _ h => h.elim), hk5.at' H4.out.2.2 (fun h => h)⟩; clear hk5 hl))
  have HS2 : Hid (w.heap.size < w2.heap.size) := H3.out.2.2.2
  clear H1 H2 H3 H4 HSP HK
  go_wp2
  go_loopw [12, 13, 14] (fun x y v wr => ∃ (t i : Nat) (last : Int), x = .int .i64 t ∧ y = .int .i64 last ∧ v = .int .i64 i ∧ i ≤ st ∧ Wk wr (fun k => w2.heap.size ≤ k) b P C H t ∧ Kept No w wr ∧ wr.heap[w.heap.size]? = some (.cells #[.slice a0 P.length c0, .slice a1 C.length c1] 29) ∧ Lst2 P C H t last) (fun _ _ v _ => st - (intOf v).toNat)
  case atStart => exact ⟨fr, 0, -1, by rw [HZ.out.1], rfl, rfl, Nat.zero_le _, H5.out.1, H5.out.2.1, H5.out.2.2, fun q hs he => by have := who_nn HTk.out.2 hs; omega⟩
  case round =>
    clear H5
    obtain ⟨t, i, last, rfl, rfl, rfl, hi, hW, hkw, hTB, hL⟩ := hrel
    have HR : Hid (Wk wr (fun k => w2.heap.size ≤ k) b P C H t ∧ Kept No w wr ∧ wr.heap[w.heap.size]? = some (.cells #[.slice a0 P.length c0, .slice a1 C.length c1] 29) ∧ Lst2 P C H t last) := ⟨hW, hkw, hTB, hL⟩
    obtain ⟨d0, d1⟩ := bx2 hTB
    have hiz : ((i : Nat) : Int) ≤ zs := by have := HZ.out.2.1; omega
    clear hkw hTB hL
    by_cases hlt : i < st
    · have hltz : (i : Int) < zs := by have := HZ.out.2.1; omega
      obtain ⟨gp, gc, q, hb, hw, hs, n1, n2, r1, r2, r3, ht⟩ := hW
      have hTab := HTk.out.2
      have hfl := hs.lt
      obtain ⟨U, hU⟩ : ∃ U : Nat, min (Slt.fin P C H t q) 1099511627776 = (U : Int) := ⟨(min (Slt.fin P C H t q) 1099511627776).toNat, by rw [Int.min_def]; split <;> omega⟩
      have hU1 : t < U := by rw [Int.min_def] at hU; split at hU <;> omega
      have hU2 : U ≤ 1099511627776 := by rw [Int.min_def] at hU; split at hU <;> omega
      have hU3 : (U : Int) ≤ Slt.fin P C H t q := by rw [Int.min_def] at hU; split at hU <;> omega
      have hU4 : U < 1099511627776 → (U : Int) = Slt.fin P C H t q := fun h => by rw [Int.min_def] at hU; split at hU <;> omega
      have hr1 := Nat.mod_lt pb (show U - t > 0 by omega)
      obtain ⟨r, hr⟩ : ∃ r, pb % (U - t) = r := ⟨_, rfl⟩
      rw [hr] at hr1
      have hmid := hTab.same hs (m := t + r) (by omega) (by omega)
      have hmf := hTab.fin_same hs (m := t + r) (by omega) (by omega)
      have ca := HTk.out.1.at' wr t q HR.out.2.1 ht hs
      have HCU : Hid (∀ W, Kept No w W → Calls Tryz.prog 19 #[.agg #[.slice a0 P.length c0, .slice a1 C.length c1], .int .i64 t] W fun e w' => e = .returned (.tuple #[.int .i64 (U : Int), .int .i64 0]) ∧ Kept No W w') := fun W k => by
        have := HTk.out.1.un W t q k ht hs
        rw [hU] at this
        exact this
      have HCA : Hid (∀ W, Kept No w W → Calls Tryz.prog 15 #[.agg #[.slice a0 P.length c0, .slice a1 C.length c1], .int .i64 ((t + r : Nat) : Int)] W fun e w' => e = .returned (.tuple #[.int .i64 (Slt.who P C H t q), .int .i64 0]) ∧ Kept No W w') := fun W k => by
        have := HTk.out.1.at' W (t + r) q k (by omega) hmid.1
        rw [hmf.2] at this
        exact this
      have HCV : Hid (∀ W, Kept No w W → Calls Tryz.prog 19 #[.agg #[.slice a0 P.length c0, .slice a1 C.length c1], .int .i64 ((t + r : Nat) : Int)] W fun e w' => e = .returned (.tuple #[.int .i64 (U : Int), .int .i64 0]) ∧ Kept No W w') := fun W k => by
        have := HTk.out.1.un W (t + r) q k (by omega) hmid.1
        rw [hmf.1, hU] at this
        exact this
      have HLS : Hid (Slt.who P C H t q = last → t % H = 0) := fun e => HR.out.2.2.2 q hs e
      have HNX : Hid (U < 1099511627776 → Lst2 P C H U (Slt.who P C H t q)) := fun h q' hs' he => hTab.next hs (hU4 h) hs' he
      have HWR : Hid (∀ W, Kept No wr W → Wk W (fun k => w2.heap.size ≤ k) b P C H t) := fun W k => HR.out.1.keep k
      rw [hU] at hb
      have HB : Hid (wr.heap[b]? = some (wkC H gp P.length gc C.length t (Slt.who P C H t q) U)) := hb
      have HTN : Hid (t < 1099511627776 ∧ t < U ∧ U ≤ 1099511627776 ∧ r < U - t ∧ pb % (U - t) = r) := ⟨ht, hU1, hU2, hr1, hr⟩
      clear hb hw hs n1 n2 r1 r2 r3 hTab hfl hU hU3 hU4 hmid hmf
      obtain ⟨O, hO⟩ : ∃ O, Slt.who P C H t q = O := ⟨_, rfl⟩
      rw [hO] at ca HCA HLS HNX HB
      clear hO
      obtain ⟨zt, ezt⟩ : ∃ z : Int, (t : Int) = z := ⟨_, rfl⟩
      obtain ⟨zu, ezu⟩ : ∃ z : Int, (U : Int) = z := ⟨_, rfl⟩
      obtain ⟨zr, ezr⟩ : ∃ z : Int, (r : Int) = z := ⟨_, rfl⟩
      have t1 : 0 ≤ zt := by omega
      have t2 : zt < zu := by omega
      have t3 : zu ≤ 1099511627776 := by omega
      have t4 : 0 ≤ zr := by omega
      have t5 : zr < zu - zt := by omega
      have em1 : zp % (zu - zt) = zr := by
        rw [← HZ.out.2.2.1, ← ezu, ← ezt, ← ezr, ← hr, show (U : Int) - (t : Int) = ((U - t : Nat) : Int) by omega]
        rfl
      have em2 : Int.tmod zp (zu - zt) = zr := by rw [Int.tmod_eq_emod_of_nonneg f5]; exact em1
      have em3 : ((t + r : Nat) : Int) = zt + zr := by omega
      rw [em3] at HCA HCV
      have HE : Hid ((t : Int) = zt ∧ (U : Int) = zu) := ⟨ezt, ezu⟩
      rw [ezt] at ca HCU
      rw [ezu] at HCU HCV
      have HB2 : Hid (wr.heap[b]? = some (.cells #[.int .i64 H, .slice (some ⟨gp, 0, none⟩) P.length P.length, .slice (some ⟨gc, 0, none⟩) C.length C.length, .int .i64 zt, .int .i64 O, .int .i64 zu] 92)) := by
        have := HB.out
        unfold wkC at this
        rw [ezt, ezu] at this
        exact this
      have e0 : ((t : Nat) : Int) = zt := ezt
      clear ht hU1 hU2 hr1 hr ezu ezr em3 ezt
      simp only [e0]
      have HIT : Hid (i < st) := hlt
      clear e0 hlt hi
      go_upto_region 13 with (go_at_call 15; refine ca.mono ?_; rintro e w6 ⟨rfl, hk6⟩; have H6 : Hid (Kept No wr w6 ∧ w6.heap[w.heap.size]? = some (.cells #[.slice a0 P.length c0, .slice a1 C.length c1] 29)) := ⟨hk6, hk6.at' HR.out.2.2.1 (fun h => h)⟩; clear hk6 ca)
      clear d0 d1
      obtain ⟨d0, d1⟩ := bx2 H6.out.2
      have cu := HCU.out w6 (HR.out.2.1.trans H6.out.1 (fun _ h => h.elim))
      go_upto_region 14 with (go_at_call 19; refine cu.mono ?_; rintro e w7 ⟨rfl, hk7⟩; have H7 : Hid (Kept No wr w7 ∧ w7.heap[w.heap.size]? = some (.cells #[.slice a0 P.length c0, .slice a1 C.length c1] 29)) := ⟨H6.out.1.trans hk7 (fun _ h => h.elim), hk7.at' H6.out.2 (fun h => h)⟩; clear hk7 cu)
      clear d0 d1
      have hH1 : 1 ≤ H := HTk.out.2.pos
      have hb7 : w7.heap[b]? = some (wkC H gp P.length gc C.length t O zu) := by
        have := H7.out.1.at' HB.out (fun h => h)
        rw [HE.out.2] at this
        exact this
      have nw := wnow_any w7 hb7 hH1
      have oc := wocc_any w7 hb7 hH1
      have un := wuntil_any w7 hb7 hH1
      rw [HE.out.1] at nw
      clear hb7 hH1
      go_upto_region 16 with (first
        | (go_at_call 20; refine nw.mono ?_; rintro e w' ⟨rfl, hw'⟩; obtain rfl := hw'.symm; clear nw)
        | (go_at_call 21; refine oc.mono ?_; rintro e w' ⟨rfl, hw'⟩; obtain rfl := hw'.symm; clear oc)
        | (go_at_call 22; refine un.mono ?_; rintro e w' ⟨rfl, hw'⟩; obtain rfl := hw'.symm; clear un))
      have hH0 : ¬ zH = 0 := by omega
      go_cut [143] from 135 to 143 (fun p143 wx => wx = w7 ∧ p143 = .bool false)
      case first =>
        by_cases hol : O = last
        · have hm0 : zt % zH = 0 := by
            have := HLS.out hol
            rw [← HE.out.1, ← HZ.out.2.2.2]
            have e : (t : Int) % (H : Int) = ((t % H : Nat) : Int) := rfl
            rw [e, this]
            rfl
          have hm1 : Int.tmod zt zH = 0 := by rw [Int.tmod_eq_emod_of_nonneg t1]; exact hm0
          go_wp2
          go_meet
          exact ⟨rfl, rfl⟩
        · go_wp2
          go_meet
          exact ⟨rfl, rfl⟩
      case rest =>
        obtain ⟨rfl, rfl⟩ := hcut
        have hd0 : ¬ zu - zt = 0 := by omega
        go_upto_region 19 with fail
        obtain ⟨d0, d1⟩ := bx2 H7.out.2
        have ca2 := HCA.out _ (HR.out.2.1.trans H7.out.1 (fun _ h => h.elim))
        go_upto_region 20 with (go_at_call 15; refine ca2.mono ?_; rintro e w8 ⟨rfl, hk8⟩; have H8 : Hid (Kept No wr w8 ∧ w8.heap[w.heap.size]? = some (.cells #[.slice a0 P.length c0, .slice a1 C.length c1] 29)) := ⟨H7.out.1.trans hk8 (fun _ h => h.elim), hk8.at' H7.out.2 (fun h => h)⟩; clear hk8 ca2)
        clear d0 d1
        obtain ⟨d0, d1⟩ := bx2 H8.out.2
        have cv2 := HCV.out w8 (HR.out.2.1.trans H8.out.1 (fun _ h => h.elim))
        go_upto_region 23 with (go_at_call 19; refine cv2.mono ?_; rintro e w9 ⟨rfl, hk9⟩; have H9 : Hid (Kept No wr w9 ∧ w9.heap[w.heap.size]? = some (.cells #[.slice a0 P.length c0, .slice a1 C.length c1] 29)) := ⟨H8.out.1.trans hk9 (fun _ h => h.elim), hk9.at' H8.out.2 (fun h => h)⟩; clear hk9 cv2)
        clear d0 d1
        have hb9 : w9.heap[b]? = some (wkC H gp P.length gc C.length t O zu) := by
          have := H9.out.1.at' HB.out (fun h => h)
          rw [HE.out.2] at this
          exact this
        by_cases hzu : zu = 1099511627776
        · have an := wadv_no zu w9 hb9 HTk.out.2.pos (.inr (by omega))
          clear hb9 em1 em2 t1 t2 t3 t4 t5 hd0 f1 f2 f3 f4 f5 f6 f7 f8 hH0 hiz hltz HCA HCU HCV HLS HNX HWR HB HTN HB2
          have eb : (zu == 1099511627776) = true := by rw [hzu]; rfl
          have HZU : Hid (zu = 1099511627776) := hzu
          clear hzu
          go_wp2_with (go_at_call 18; refine an.mono ?_; rintro e w' ⟨rfl, hw'⟩; obtain rfl := hw'.symm; clear an)
          go_ret
          exact ⟨rfl, (HR.out.2.1.trans H9.out.1 (fun _ h => h.elim)).below0⟩
        · have hUl : U < 1099511627776 := by have := HE.out.2; omega
          have an := wadv_yes w9 (HWR.out w9 H9.out.1) HTk.out.2 (Nat.le_of_lt HTN.out.2.1) hUl
          rw [HE.out.2] at an
          have HU : Hid (Lst2 P C H U O) := HNX.out hUl
          have eb : (zu == 1099511627776) = false := beq_eq_false_iff_ne.2 hzu
          clear hb9 hUl em1 em2 t1 t4 t5 hd0 f1 f2 f3 f5 f6 f7 f8 hH0 hzu HCA HCU HCV HLS HNX HWR HB HB2
          go_wp2_with (go_at_call 18; refine an.mono ?_; rintro e w10 ⟨rfl, hw10, hk10⟩; have H10 : Hid (Wk w10 (fun k => w2.heap.size ≤ k) b P C H U ∧ Kept No w w10 ∧ w10.heap[w.heap.size]? = some (.cells #[.slice a0 P.length c0, .slice a1 C.length c1] 29)) := ⟨hw10, (HR.out.2.1.trans H9.out.1 (fun _ h => h.elim)).trans hk10 (fun k h => .inr (by have := HS2.out; omega)), hk10.at' H9.out.2 (fun h => by have := HS2.out; omega)⟩; clear hw10 hk10 an)
          go_roundw
          case rel => exact ⟨U, i + 1, O, by rw [HE.out.2], rfl, by go_num, by have := HIT.out; omega, H10.out.1, H10.out.2.1, H10.out.2.2, HU.out⟩
          case measure => have := HIT.out; simp [intOf]; omega
    · have hltz : ¬ (i : Int) < zs := by have := HZ.out.2.1; omega
      clear hW hlt
      go_wp2
      go_ret
      exact ⟨rfl, HR.out.2.1.below0⟩
end Go.Proofs.YtdcfcgmmjobdcaaGreatDoor

namespace Go.Proofs.YtdcfcgmmjobdcaaGreatDoor
open Go.RowKit Go.Shelf Plain
set_option linter.unusedVariables false
set_option maxRecDepth 100000

theorem salong_law {F G : Nat → Prop} {a0 a1 : Option Addr} {n0 c0 n1 c1 : Nat} {P C : List (Int × Int)} (fr st pb : Int) (w : World) (hg : Gl w) (h : Sl w F a0 n0 c0 P) (hF : ∀ k, F k → k < w.heap.size) (h' : Sl w G a1 n1 c1 C) (hG : ∀ k, G k → k < w.heap.size) (hpb : pb ≤ 9223372036854775807) :
    Calls Tryz.prog 4 #[.agg #[.slice a0 n0 c0, .slice a1 n1 c1], .int .i64 fr, .int .i64 st, .int .i64 pb] w fun e w' => e = .returned (.bool true) ∧ Below w.heap.size w w' := by
  by_cases ho : hyF P C = 0 ∨ (300000 : Int) < n0 ∨ (300000 : Int) < n1 ∨ fr < 0 ∨ 1099511627776 ≤ fr ∨ st < 0 ∨ 100 < st ∨ pb < 0
  · exact salong_out fr st pb w hg h hF h' hG ho
  · have h0 : hyF P C ≠ 0 := fun e => ho (.inl e)
    have o1 : ¬ (300000 : Int) < n0 := fun e => ho (.inr (.inl e))
    have o2 : ¬ (300000 : Int) < n1 := fun e => ho (.inr (.inr (.inl e)))
    have o3 : ¬ fr < 0 := fun e => ho (.inr (.inr (.inr (.inl e))))
    have o4 : ¬ 1099511627776 ≤ fr := fun e => ho (.inr (.inr (.inr (.inr (.inl e)))))
    have o5 : ¬ st < 0 := fun e => ho (.inr (.inr (.inr (.inr (.inr (.inl e))))))
    have o6 : ¬ 100 < st := fun e => ho (.inr (.inr (.inr (.inr (.inr (.inr (.inl e)))))))
    have o7 : ¬ pb < 0 := fun e => ho (.inr (.inr (.inr (.inr (.inr (.inr (.inr e)))))))
    obtain ⟨f, rfl⟩ : ∃ f : Nat, fr = f := ⟨fr.toNat, by omega⟩
    obtain ⟨s, rfl⟩ : ∃ s : Nat, st = s := ⟨st.toNat, by omega⟩
    obtain ⟨p, rfl⟩ : ∃ p : Nat, pb = p := ⟨pb.toNat, by omega⟩
    obtain rfl := h.len
    obtain rfl := h'.len
    exact salong_in f s p w hg h hF h' hG (hyF_tab h0).1 (by omega) (by omega) (by omega) (by omega) (by omega)
end Go.Proofs.YtdcfcgmmjobdcaaGreatDoor
