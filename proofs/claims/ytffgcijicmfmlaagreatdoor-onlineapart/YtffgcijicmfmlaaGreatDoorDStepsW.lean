/-
  The walk of OnlineSteps.
-/
import Derived.Test.YtffgcijicmfmlaaGreatDoorDRuleW
namespace Go.Proofs.YtffgcijicmfmlaaGreatDoor
open Go.RowKit Plain
set_option linter.unusedVariables false
set_option maxRecDepth 100000

structure Is (w : World) (F : Nat → Prop) (a : Option Addr) (n c : Nat) (ss : List Int) : Prop where
  len : ss.length = n
  cap : n ≤ c
  max : c ≤ 9223372036854775807
  i6 : ∀ x, x ∈ ss → I6 x
  at' : ∀ i x, ss[i]? = some x → ∃ g o, a = some ⟨g, o, none⟩ ∧ F g ∧ w.cell? ⟨g, o + i, none⟩ = some (.int .i64 x)

/-- Dtw dispatchers of one list, apart: the first at t, the second at 0. -/
def Dtw (W w : World) (d1 d2 : Nat) (xs : List Srv) (t : Nat) : Prop :=
  ∃ R1 R2 : Nat → Prop, Dn w d1 R1 xs t ∧ Dn w d2 R2 xs 0 ∧ (∀ k, R1 k → ¬ R2 k) ∧ (∀ k, R1 k → W.heap.size ≤ k) ∧ (∀ k, R2 k → W.heap.size ≤ k) ∧ (∀ k, R2 k → k < w.heap.size) ∧ Kept No W w
theorem Dtw.keep {W w w' : World} {d1 d2 : Nat} {xs : List Srv} {t : Nat} (h : Dtw W w d1 d2 xs t) (hk : Kept No w w') : Dtw W w' d1 d2 xs t := by
  obtain ⟨R1, R2, h1, h2, h3, h4, h5, h6, h7⟩ := h
  exact ⟨R1, R2, h1.keep hk, h2.keep hk, h3, h4, h5, fun k hk' => Nat.lt_of_lt_of_le (h6 k hk') hk.size, h7.trans hk (fun _ h => h.elim)⟩
theorem Dtw.k {W w : World} {d1 d2 : Nat} {xs : List Srv} {t : Nat} (h : Dtw W w d1 d2 xs t) : Kept No W w := by
  obtain ⟨R1, R2, h1, h2, h3, h4, h5, h6, h7⟩ := h
  exact h7
theorem Dtw.good {W w : World} {d1 d2 : Nat} {xs : List Srv} {t : Nat} (hv : Vd xs) (h : Dtw W w d1 d2 xs t) (x : Nat) (hx1 : t ≤ x) (hx2 : x < 1099511627776) :
    Calls Tryz.prog 11 #[.pointer (some ⟨d1, 0, none⟩), .int .i64 x] w fun e w' => e = .returned (.int .i64 0) ∧ Dtw W w' d1 d2 xs x := by
  obtain ⟨R1, R2, h1, h2, h3, h4, h5, h6, h7⟩ := h
  refine (good_dn hv h1 x hx1 hx2).mono ?_
  rintro e w' ⟨rfl, g1, g2⟩
  refine ⟨rfl, _, R2, g1, h2.kept g2 (fun k q1 q2 => h3 k q2 q1), ?_, ?_, h5, fun k hk => Nat.lt_of_lt_of_le (h6 k hk) g2.size, h7.trans g2 (fun k hk => .inr (h4 k hk))⟩
  · rintro k (hk | hk) h8
    · exact h3 k hk h8
    · have := h6 k h8; omega
  · rintro k (hk | hk)
    · exact h4 k hk
    · have := h7.size; omega
theorem Dtw.bad {W w : World} {d1 d2 : Nat} {xs : List Srv} {t : Nat} (h : Dtw W w d1 d2 xs t) (x : Int) (hx : x < t ∨ 1099511627775 < x) :
    Calls Tryz.prog 11 #[.pointer (some ⟨d1, 0, none⟩), .int .i64 x] w fun e w' => e = .returned (.int .i64 2) ∧ Dtw W w' d1 d2 xs t := by
  obtain ⟨R1, R2, h1, h2, h3, h4, h5, h6, h7⟩ := h
  refine (bad_dn h1 x hx).mono ?_
  rintro e w' ⟨rfl, rfl⟩
  exact ⟨rfl, R1, R2, h1, h2, h3, h4, h5, h6, h7⟩
theorem Dtw.now {W w : World} {d1 d2 : Nat} {xs : List Srv} {t : Nat} (h : Dtw W w d1 d2 xs t) :
    Calls Tryz.prog 12 #[.pointer (some ⟨d1, 0, none⟩)] w fun e w' => e = .returned (.int .i64 t) ∧ Dtw W w' d1 d2 xs t := by
  have h' := h
  obtain ⟨R1, R2, h1, h2, h3, h4, h5, h6, h7⟩ := h
  refine (now_dn h1).mono ?_
  rintro e w' ⟨rfl, g1⟩
  exact ⟨rfl, h'.keep g1⟩
/-- Dtw dispatchers of one list that stand at one tick. -/
def Tws (W w : World) (d1 d2 : Nat) (xs : List Srv) (t : Nat) : Prop :=
  ∃ R1 R2 : Nat → Prop, Dn w d1 R1 xs t ∧ Dn w d2 R2 xs t ∧ Kept No W w
theorem Dtw.last {W w : World} {d1 d2 : Nat} {xs : List Srv} {t : Nat} (hv : Vd xs) (h : Dtw W w d1 d2 xs t) (hx2 : t < 1099511627776) :
    Calls Tryz.prog 11 #[.pointer (some ⟨d2, 0, none⟩), .int .i64 t] w fun e w' => e = .returned (.int .i64 0) ∧ Tws W w' d1 d2 xs t := by
  obtain ⟨R1, R2, h1, h2, h3, h4, h5, h6, h7⟩ := h
  refine (good_dn hv h2 t (Nat.zero_le _) hx2).mono ?_
  rintro e w' ⟨rfl, g1, g2⟩
  exact ⟨rfl, R1, _, h1.kept g2 h3, g1, h7.trans g2 (fun k hk => .inr (h5 k hk))⟩
theorem Tws.keep {W w w' : World} {d1 d2 : Nat} {xs : List Srv} {t : Nat} (h : Tws W w d1 d2 xs t) (hk : Kept No w w') : Tws W w' d1 d2 xs t := by
  obtain ⟨R1, R2, h1, h2, h7⟩ := h
  exact ⟨R1, R2, h1.keep hk, h2.keep hk, h7.trans hk (fun _ h => h.elim)⟩
theorem Tws.a {W w : World} {d1 d2 : Nat} {xs : List Srv} {t : Nat} (h : Tws W w d1 d2 xs t) : ∃ R, Dn w d1 R xs t := by
  obtain ⟨R1, R2, h1, h2, h7⟩ := h
  exact ⟨_, h1⟩
theorem Tws.b {W w : World} {d1 d2 : Nat} {xs : List Srv} {t : Nat} (h : Tws W w d1 d2 xs t) : ∃ R, Dn w d2 R xs t := by
  obtain ⟨R1, R2, h1, h2, h7⟩ := h
  exact ⟨_, h2⟩
theorem Tws.k {W w : World} {d1 d2 : Nat} {xs : List Srv} {t : Nat} (h : Tws W w d1 d2 xs t) : Kept No W w := by
  obtain ⟨R1, R2, h1, h2, h7⟩ := h
  exact h7

set_option maxHeartbeats 4000000 in
theorem osteps_no {F : Nat → Prop} {a : Option Addr} {c : Nat} {xs : List Srv} {p : Int × Int} (ps : Option Addr) (sn sc : Nat) (w : World) (hg : Gl w) (h : Sv w F a xs.length c xs) (ht : timF xs xs.length = some p) :
    Calls Tryz.prog 3 #[.slice a xs.length c, .slice ps sn sc] w fun e w' => e = .returned (.bool true) ∧ Below w.heap.size w w' := by
  have HA : Hid (∀ W, Kept No w W → Calls Tryz.prog 9 #[.slice a xs.length c] W fun e w' => e = .returned (.tuple #[.pointer none, .int .i64 0, .bool true]) ∧ Kept No W w') := fun W hk => able_no W (hg.kept hk) (h.keep hk) ht
  have HKN : Hid (∀ W, Kept No w W → Calls Tryz.prog 10 #[] W fun e w' => e = .returned (.bool true) ∧ Kept No W w') := fun W hk => known_any W (hg.kept hk)
  have q2 : ∀ (w : World), (binOp .eql 24 (.pointer none) (.pointer none)).run Tryz.prog w = .ok (.bool true) w := fun w => by rfl
  clear h hg ht
  have a1 := HA.out w (Kept.refl No w)
  go_enter Tryz.func3, Tryz.ntmps3
  go_upto_region 2 with (go_at_call 9; refine a1.mono ?_; rintro e w1 ⟨rfl, hk1⟩; have HK1 : Hid (Kept No w w1) := hk1; clear hk1 a1)
  have a2 := HA.out w1 HK1.out
  go_wp2_with (first
    | (go_at_call 9; refine a2.mono ?_; rintro e w2 ⟨rfl, hk2⟩; have HK2 : Hid (Kept No w w2) := HK1.out.trans hk2 (fun _ h => h.elim); have kn := HKN.out w2 HK2.out; clear hk2 a2)
    | (go_at_call 10; refine kn.mono ?_; rintro e w3 ⟨rfl, hk3⟩; have HK3 : Hid (Kept No w w3) := HK2.out.trans hk3 (fun _ h => h.elim); clear hk3 kn))
  go_ret
  exact ⟨rfl, HK3.out.below0⟩

set_option maxHeartbeats 8000000 in
theorem osteps_yes {F G : Nat → Prop} {a : Option Addr} {c : Nat} {xs : List Srv} {ps : Option Addr} {sn sc : Nat} {ss : List Int} (w : World) (hg : Gl w) (h : Sv w F a xs.length c xs) (hi : Is w G ps sn sc ss) (ht : timF xs xs.length = none) :
    Calls Tryz.prog 3 #[.slice a xs.length c, .slice ps sn sc] w fun e w' => e = .returned (.bool true) ∧ Below w.heap.size w w' := by
  have HV : Hid (Vd xs) := vd_of ht
  have hn := HV.out.num
  have HI : Hid (Is w G ps sn sc ss) := hi
  have hscap := hi.cap
  have hsmax := hi.max
  have HA : Hid (∀ W, Kept No w W → Calls Tryz.prog 9 #[.slice a xs.length c] W fun e w' => ∃ d, e = .returned (.tuple #[.pointer (some ⟨d, 0, none⟩), .int .i64 (hyp xs), .bool true]) ∧ Dn w' d (fun k => W.heap.size ≤ k ∧ k < w'.heap.size) xs 0 ∧ Kept No W w') := fun W hk => (able_yes W (hg.kept hk) (h.keep hk) ht).mono (by
    rintro e w' ⟨d, rfl, h1, h2⟩
    exact ⟨d, rfl, h1.dn, h2⟩)
  have HKN : Hid (∀ W, Kept No w W → Calls Tryz.prog 10 #[] W fun e w' => e = .returned (.bool true) ∧ Kept No W w') := fun W hk => known_any W (hg.kept hk)
  have q2 : ∀ (w : World) (d : Nat), (binOp .eql 24 (.pointer (some ⟨d, 0, none⟩)) (.pointer none)).run Tryz.prog w = .ok (.bool false) w := fun w d => by rfl
  obtain ⟨H, hH⟩ : ∃ H, hyp xs = H := ⟨_, rfl⟩
  rw [hH] at HA
  clear h hg ht hH hi
  have a1 := HA.out w (Kept.refl No w)
  go_enter Tryz.func3, Tryz.ntmps3
  go_upto_region 2 with (go_at_call 9; refine a1.mono ?_; rintro e w1 ⟨d1, rfl, hd1, hk1⟩; have H1 : Hid (Dn w1 d1 (fun k => w.heap.size ≤ k ∧ k < w1.heap.size) xs 0 ∧ Kept No w w1) := ⟨hd1, hk1⟩; clear hd1 hk1 a1)
  have a2 := HA.out w1 H1.out.2
  go_upto_region 8 with (first
    | (go_at_call 9; refine a2.mono ?_; rintro e w2 ⟨d2, rfl, hd2, hk2⟩; have H2 : Hid (Dtw w w2 d1 d2 xs 0) := ⟨_, _, H1.out.1.keep hk2, hd2, (fun k q1 q2 => by have := q1.2; have := q2.1; omega), (fun k q => q.1), (fun k q => Nat.le_trans H1.out.2.size q.1), (fun k q => q.2), H1.out.2.trans hk2 (fun _ h => h.elim)⟩; have kn := HKN.out w2 H2.out.k; clear hd2 hk2 a2)
    | (go_at_call 10; refine kn.mono ?_; rintro e w3 ⟨rfl, hk3⟩; have H3 : Hid (Dtw w w3 d1 d2 xs 0) := H2.out.keep hk3; clear hk3 kn))
  go_wp2
  go_loopw [11, 12] (fun v x wr => ∃ t k : Nat, t < 1099511627776 ∧ k ≤ sn ∧ v = .int .i64 t ∧ x = .int .i64 k ∧ Dtw w wr d1 d2 xs t) (fun _ x _ => sn - (intOf x).toNat)
  case atStart => exact ⟨0, 0, by omega, Nat.zero_le _, rfl, rfl, H3.out⟩
  case round =>
    obtain ⟨t, k, htM, hk, rfl, rfl, hT⟩ := hrel
    have HT : Hid (Dtw w wr d1 d2 xs t) := hT
    clear hT H3
    by_cases hgo : k < sn ∧ k < 200
    · obtain ⟨hg1, hg2⟩ := hgo
      obtain ⟨x, hx⟩ : ∃ x, ss[k]? = some x := ⟨_, List.getElem?_eq_getElem (by rw [HI.out.len]; exact hg1)⟩
      have hx6 : I6 x := HI.out.i6 x (List.mem_of_getElem? hx)
      obtain ⟨g, o, rfl, _, hc⟩ := HI.out.at' k x hx
      have HC : Hid (∀ w', Kept No w w' → w'.cell? ⟨g, o + k, none⟩ = some (.int .i64 x)) := fun w' hk => hk.cell hc (fun h => h)
      clear hc hx
      unfold I6 at hx6
      have c1 := HC.out wr HT.out.k
      by_cases hgood : (t : Int) ≤ x ∧ x < 1099511627776
      · obtain ⟨hx1, hx2⟩ := hgood
        obtain ⟨u, rfl⟩ : ∃ u : Nat, x = (u : Int) := ⟨x.toNat, by omega⟩
        have ad := HT.out.good HV.out u (by omega) (by omega)
        have hx3 : t ≤ u := by omega
        have hg3 : (k : Int) < 200 := by omega
        have hx5 : ((u : Int) ≥ (t : Int)) := hx1
        have hx7 : decide ((t : Int) ≤ (u : Int)) = true := decide_eq_true hx1
        clear hx6 hx1
        go_upto_region 12 with (fail)
        go_upto_region 13 with (go_at_call 11; refine ad.mono ?_; rintro e w4 ⟨rfl, h4⟩; have H4 : Hid (Dtw w w4 d1 d2 xs u) := h4; clear h4 ad)
        have c2 := HC.out w4 H4.out.k
        have nw := H4.out.now
        clear c1
        go_wp2_with (go_at_call 12; refine nw.mono ?_; rintro e w5 ⟨rfl, h5⟩; have H5 : Hid (Dtw w w5 d1 d2 xs u) := h5; clear h5 nw)
        go_roundw
        case rel => exact ⟨u, k + 1, by omega, by omega, rfl, by go_num, H5.out⟩
        case measure => simp [intOf]; omega
      · have hg3 : (k : Int) < 200 := by omega
        by_cases hlo : x < (t : Int)
        · have ad := HT.out.bad x (.inl hlo)
          have hx5 : ¬ (x ≥ (t : Int)) := by omega
          have hx7 : decide ((t : Int) ≤ x) = false := decide_eq_false (by omega)
          clear hgood
          go_upto_region 12 with (fail)
          go_upto_region 13 with (go_at_call 11; refine ad.mono ?_; rintro e w4 ⟨rfl, h4⟩; have H4 : Hid (Dtw w w4 d1 d2 xs t) := h4; clear h4 ad)
          have nw := H4.out.now
          clear c1
          go_wp2_with (go_at_call 12; refine nw.mono ?_; rintro e w5 ⟨rfl, h5⟩; have H5 : Hid (Dtw w w5 d1 d2 xs t) := h5; clear h5 nw)
          go_roundw
          case rel => exact ⟨t, k + 1, by omega, by omega, rfl, by go_num, H5.out⟩
          case measure => simp [intOf]; omega
        · have hx2 : ¬ (x < 1099511627776) := by omega
          have ad := HT.out.bad x (.inr (by omega))
          have hx5 : x ≥ (t : Int) := by omega
          have hx7 : decide ((t : Int) ≤ x) = true := decide_eq_true (by omega)
          have hx8 : decide (x < 1099511627776) = false := decide_eq_false hx2
          clear hgood
          go_upto_region 12 with (fail)
          go_upto_region 13 with (go_at_call 11; refine ad.mono ?_; rintro e w4 ⟨rfl, h4⟩; have H4 : Hid (Dtw w w4 d1 d2 xs t) := h4; clear h4 ad)
          have nw := H4.out.now
          clear c1
          go_wp2_with (go_at_call 12; refine nw.mono ?_; rintro e w5 ⟨rfl, h5⟩; have H5 : Hid (Dtw w w5 d1 d2 xs t) := h5; clear h5 nw)
          go_roundw
          case rel => exact ⟨t, k + 1, by omega, by omega, rfl, by go_num, H5.out⟩
          case measure => simp [intOf]; omega
    · have la := HT.out.last HV.out htM
      have HM : Hid (t < 1099511627776) := htM
      obtain ⟨O, hO⟩ : ∃ O, Rule.occ (sys xs) t = O := ⟨_, rfl⟩
      obtain ⟨U, hU⟩ : ∃ U, Rule.until' (sys xs) t = U := ⟨_, rfl⟩
      by_cases hge : k < sn
      · have hg3 : ¬ (k : Int) < 200 := by omega
        clear hgo
        go_wp2_with (first
          | (go_at_call 11; refine la.mono ?_; rintro e w4 ⟨rfl, h4⟩; have H4 : Hid (Tws w w4 d1 d2 xs t) := h4; obtain ⟨Ra, hra⟩ := h4.a; have r1 := rests_dn HV.out hra; clear h4 hra la)
          | (go_at_call 14; refine r1.mono ?_; rintro e w5 ⟨g1, cg1, rfl, _, _, _, ct1, hk5⟩; have H5 : Hid (Tws w w5 d1 d2 xs t ∧ Ct w5 g1 xs.length (fun i => (Rule.rest (sys xs) t i : Int))) := ⟨H4.out.keep hk5, ct1⟩; obtain ⟨Rb, hrb⟩ := H5.out.1.b; have r2 := rests_dn HV.out hrb; clear ct1 hk5 hrb r1)
          | (go_at_call 14; refine r2.mono ?_; rintro e w6 ⟨g2, cg2, rfl, _, _, _, ct2, hk6⟩; have H6 : Hid (Tws w w6 d1 d2 xs t) := H5.out.1.keep hk6; have sm := sameInts_yes (c := cg1) (c' := cg2) w6 (H5.out.2.keep hk6) ct2 hn; clear ct2 hk6 r2)
          | (go_at_call 13; refine sm.mono ?_; rintro e w7 ⟨rfl, hk7⟩; have H7 : Hid (Tws w w7 d1 d2 xs t) := H6.out.keep hk7; obtain ⟨Rc, hrc⟩ := H7.out.a; have o1 := occ_dn HV.out hrc; rw [hO] at o1; clear hk7 hrc sm)
          | (go_at_call 15; refine o1.mono ?_; rintro e w8 ⟨rfl, hk8⟩; have H8 : Hid (Tws w w8 d1 d2 xs t) := H7.out.keep hk8; obtain ⟨Rd, hrd⟩ := H8.out.b; have o2 := occ_dn HV.out hrd; rw [hO] at o2; clear hk8 hrd o1)
          | (go_at_call 15; refine o2.mono ?_; rintro e w9 ⟨rfl, hk9⟩; have H9 : Hid (Tws w w9 d1 d2 xs t) := H8.out.keep hk9; obtain ⟨Re, hre⟩ := H9.out.a; have u1 := until_dn HV.out hre HM.out; rw [hU] at u1; clear hk9 hre o2)
          | (go_at_call 16; refine u1.mono ?_; rintro e w10 ⟨rfl, hk10⟩; have H10 : Hid (Tws w w10 d1 d2 xs t) := H9.out.keep hk10; obtain ⟨Rf, hrf⟩ := H10.out.b; have u2 := until_dn HV.out hrf HM.out; rw [hU] at u2; clear hk10 hrf u1)
          | (go_at_call 16; refine u2.mono ?_; rintro e w11 ⟨rfl, hk11⟩; have H11 : Hid (Tws w w11 d1 d2 xs t) := H10.out.keep hk11; clear hk11 u2))
        go_ret
        exact ⟨rfl, H11.out.k.below0⟩
      · clear hgo hk
        go_wp2_with (first
          | (go_at_call 11; refine la.mono ?_; rintro e w4 ⟨rfl, h4⟩; have H4 : Hid (Tws w w4 d1 d2 xs t) := h4; obtain ⟨Ra, hra⟩ := h4.a; have r1 := rests_dn HV.out hra; clear h4 hra la)
          | (go_at_call 14; refine r1.mono ?_; rintro e w5 ⟨g1, cg1, rfl, _, _, _, ct1, hk5⟩; have H5 : Hid (Tws w w5 d1 d2 xs t ∧ Ct w5 g1 xs.length (fun i => (Rule.rest (sys xs) t i : Int))) := ⟨H4.out.keep hk5, ct1⟩; obtain ⟨Rb, hrb⟩ := H5.out.1.b; have r2 := rests_dn HV.out hrb; clear ct1 hk5 hrb r1)
          | (go_at_call 14; refine r2.mono ?_; rintro e w6 ⟨g2, cg2, rfl, _, _, _, ct2, hk6⟩; have H6 : Hid (Tws w w6 d1 d2 xs t) := H5.out.1.keep hk6; have sm := sameInts_yes (c := cg1) (c' := cg2) w6 (H5.out.2.keep hk6) ct2 hn; clear ct2 hk6 r2)
          | (go_at_call 13; refine sm.mono ?_; rintro e w7 ⟨rfl, hk7⟩; have H7 : Hid (Tws w w7 d1 d2 xs t) := H6.out.keep hk7; obtain ⟨Rc, hrc⟩ := H7.out.a; have o1 := occ_dn HV.out hrc; rw [hO] at o1; clear hk7 hrc sm)
          | (go_at_call 15; refine o1.mono ?_; rintro e w8 ⟨rfl, hk8⟩; have H8 : Hid (Tws w w8 d1 d2 xs t) := H7.out.keep hk8; obtain ⟨Rd, hrd⟩ := H8.out.b; have o2 := occ_dn HV.out hrd; rw [hO] at o2; clear hk8 hrd o1)
          | (go_at_call 15; refine o2.mono ?_; rintro e w9 ⟨rfl, hk9⟩; have H9 : Hid (Tws w w9 d1 d2 xs t) := H8.out.keep hk9; obtain ⟨Re, hre⟩ := H9.out.a; have u1 := until_dn HV.out hre HM.out; rw [hU] at u1; clear hk9 hre o2)
          | (go_at_call 16; refine u1.mono ?_; rintro e w10 ⟨rfl, hk10⟩; have H10 : Hid (Tws w w10 d1 d2 xs t) := H9.out.keep hk10; obtain ⟨Rf, hrf⟩ := H10.out.b; have u2 := until_dn HV.out hrf HM.out; rw [hU] at u2; clear hk10 hrf u1)
          | (go_at_call 16; refine u2.mono ?_; rintro e w11 ⟨rfl, hk11⟩; have H11 : Hid (Tws w w11 d1 d2 xs t) := H10.out.keep hk11; clear hk11 u2))
        go_ret
        exact ⟨rfl, H11.out.k.below0⟩

theorem osteps_law {F G : Nat → Prop} {a : Option Addr} {c : Nat} {xs : List Srv} {ps : Option Addr} {sn sc : Nat} {ss : List Int} (w : World) (hg : Gl w) (h : Sv w F a xs.length c xs) (hi : Is w G ps sn sc ss) :
    Calls Tryz.prog 3 #[.slice a xs.length c, .slice ps sn sc] w fun e w' => e = .returned (.bool true) ∧ Below w.heap.size w w' := by
  cases htm : timF xs xs.length with
  | some p => exact osteps_no ps sn sc w hg h htm
  | none => exact osteps_yes w hg h hi htm
end Go.Proofs.YtffgcijicmfmlaaGreatDoor
