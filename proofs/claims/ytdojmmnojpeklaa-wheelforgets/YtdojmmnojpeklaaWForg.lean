/-
  'WheelForgets'.
-/
import Derived.Test.YtdojmmnojpeklaaWPw
namespace Go.Proofs.Ytdojmmnojpeklaa
open Go.RowKit
set_option linter.unusedVariables false

theorem er_ge3F {o : Oper} {a : Act} {w : World} (x y : Operand) (t : TypeId) (ho : o.op = .binOp .geq 3 x y t) (u v : Int) (h : ¬ u ≥ v) (hx : a.eval x = .int .i64 u) (hy : a.eval y = .int .i64 v) : (execOp a.eval o).run Try.prog w = .ok (.value (.bool false)) w := by
  rw [er_ge3 x y t ho u v hx hy, decide_eq_false h]
/-- two lists that are read -/
structure Rr (W w : World) (v u : Value) (l m : List Fi) : Prop where
  a : w.ownsRow W.heap.size 32 2 v l.length (fcL l)
  b : w.ownsRow W.heap.size 32 2 u m.length (fcL m)
  bel : Below W.heap.size W w
theorem Rr.drew {W w : World} {v u : Value} {l m : List Fi} (h : Rr W w v u l m) : Rr W w.drew v u l m :=
  ⟨((Kept.refl No w).drew).owns h.a (fun _ _ h => h), ((Kept.refl No w).drew).owns h.b (fun _ _ h => h), h.bel.drew⟩
theorem row_some {w : World} {B : Nat} {va : Option Addr} {n vc : Nat} {l : List Fi} (h : w.ownsRow B 32 2 (.slice va n vc) n (fcL l)) {j : Nat} {x : Fi} (hx : l[j]? = some x) : ∃ g, va = some ⟨g, 0, none⟩ := by
  rcases owns_cells2 h with ⟨_, _, e⟩ | ⟨g, cap, h1, _⟩
  · rw [e] at hx; cases hx
  · injection h1 with h1 _ _; exact ⟨g, h1⟩
theorem lt_of_at {l : List Fi} {j : Nat} {x : Fi} (hx : l[j]? = some x) : j < l.length := by
  apply Decidable.byContradiction
  intro hn
  rw [List.getElem?_eq_none (by omega)] at hx
  cases hx

set_option maxHeartbeats 4000000 in
set_option maxRecDepth 100000 in
theorem forgets_no (now : Int) (hnow : now < 0 ∨ now > 1099511627776) (p : Option Addr) (n c : Nat) (id tick : Int) (anew : Bool) (W : World) :
    Calls Try.prog 3 #[.int .i64 now, .slice p n c, .int .i64 id, .int .i64 tick, .bool anew] W fun ex w' => ex = .returned (.bool true) ∧ Below W.heap.size W w' := by
  have cF := filled_no now hnow p n c W
  by_cases a1 : now < 0
  · clear hnow
    go_enter Try.func3, Try.ntmps3
    go_wp2_with (go_at_call 6; refine cF.mono ?_; rintro ex w2 ⟨rfl, hw2⟩; obtain rfl := hw2.symm)
    go_ret
    exact ⟨rfl, Below.refl _ _⟩
  · have a2 : now > 1099511627776 := by omega
    clear hnow
    go_enter Try.func3, Try.ntmps3
    go_wp2_with (go_at_call 6; refine cF.mono ?_; rintro ex w2 ⟨rfl, hw2⟩; obtain rfl := hw2.symm)
    go_ret
    exact ⟨rfl, Below.refl _ _⟩

set_option maxHeartbeats 8000000 in
set_option maxRecDepth 100000 in
theorem forgets_yes (now : Nat) (hnow : now ≤ 1099511627776) (G : Nat → Prop) (p : Option Addr) (n c : Nat) (xs : List Fi) (id tick : Int) (hid : I6 id) (anew : Bool) (W : World) (hx : Fs W G p n c xs) (hG : ∀ k, G k → k < W.heap.size) :
    Calls Try.prog 3 #[.int .i64 now, .slice p n c, .int .i64 id, .int .i64 tick, .bool anew] W fun ex w' => ex = .returned (.bool true) ∧ Below W.heap.size W w' := by
  have HX : Hid (Fs W G p n c xs) := hx
  have HG : Hid (∀ k, G k → k < W.heap.size) := hG
  have HID : Hid (I6 id) := hid
  have cF := filled_yes now hnow G p n c xs W hx hG
  have hcap := hx.cap
  have hmax := hx.max
  have a1 : ¬ ((now : Int) < 0) := by omega
  have a2 : ¬ ((now : Int) > 1099511627776) := by omega
  obtain ⟨L, hL⟩ : ∃ L, L = armL now xs := ⟨_, rfl⟩
  rw [← hL] at cF
  have HL : Hid (L = armL now xs) := hL
  clear hx hG hid hL
  go_enter Try.func3, Try.ntmps3
  go_upto_region 2 with (go_at_call 6; refine cF.mono ?_; rintro ex w2 ⟨b1, rfl, hW2, hB2⟩)
  have cF2 := filled_yes now hnow G p n c xs w2 (HX.out.below hB2) (fun k hk => Nat.lt_of_lt_of_le (HG.out k hk) hB2.size)
  rw [← HL.out] at cF2
  have HW2 : Hid (Wh w2 (fun k => W.heap.size ≤ k) b1 now L ∧ Below W.heap.size W w2) := ⟨hW2, hB2⟩
  clear cF hW2 hB2
  go_upto_region 3 with (go_at_call 6; refine cF2.mono ?_; rintro ex w3 ⟨b2, rfl, hW3, hB3⟩)
  have HP : Hid (Pw W w3 b1 b2 now now L L) := (by
    obtain ⟨g1, g2⟩ := HW2.out
    refine ⟨fun k => W.heap.size ≤ k ∧ k < w2.heap.size, fun k => w2.heap.size ≤ k, g1.bound.below hB3, hW3, fun k hk hn => by have := hk.2; omega, fun k hk => hk.1, fun k hk => Nat.le_trans g2.size hk, g2.trans (hB3.mono g2.size)⟩)
  clear cF2 hW3 hB3 HW2 HX HG
  by_cases hlen : (n : Int) > 3000
  · go_wp2
    go_ret
    exact ⟨rfl, HP.out.bel⟩
  · have cW := HP.out.when id HID.out
    generalize htt : (tickOf L id).getD 0 = tt at cW
    generalize hth : (tickOf L id).isSome = th at cW
    have HTT : Hid ((tickOf L id).getD 0 = tt ∧ (tickOf L id).isSome = th) := ⟨htt, hth⟩
    clear htt hth
    go_upto_region 6 with (go_at_call 7; refine cW.mono ?_; rintro ex w4 ⟨rfl, hP4⟩)
    have HP4 : Hid (Pw W w4 b1 b2 now now L L) := hP4
    have cL := hP4.len
    clear cW hP4 HP
    go_upto_region 7 with (go_at_call 8; refine cL.mono ?_; rintro ex w5 ⟨rfl, hw5⟩; obtain rfl := hw5.symm)
    clear cL
    go_upto_if 65 with fail
    go_cut [] (fun wx => ∃ L1 : List Fi, Pw W wx b1 b2 now now L1 L ∧ rem id L1 = rem id L ∧ (∀ x, x ∈ L1 → x.i = id → anew = true ∧ x.t = tick) ∧ cnt id L1 = if anew = true then 1 else 0)
    case first =>
      cases anew with
      | true =>
        have cA := HP4.out.arm ⟨tick, id⟩
        have cM := fun w0 => may_any ⟨tick, id⟩ now w0
        unfold Fi.v at cM
        dsimp only at cA cM
        by_cases hok : Ok now ⟨tick, id⟩
        · rw [if_pos hok] at cA
          have HL1 : Hid (armF now L ⟨tick, id⟩ = ins ⟨tick, id⟩ (rem id L)) := (show _ = _ by unfold armF; rw [if_pos hok])
          rw [HL1.out] at cA
          rw [decide_eq_true hok] at cM
          clear hok
          go_wp2_with (first
            | (go_at_call 9; refine cA.mono ?_; rintro ex w6 ⟨rfl, hP6⟩; have HP6 : Hid (Pw W w6 b1 b2 now now (ins ⟨tick, id⟩ (rem id L)) L) := hP6; clear hP6 cA)
            | (go_at_call 10; refine (cM _).mono ?_; rintro ex w7 ⟨rfl, hB7⟩; have HP7 : Hid (Pw W w7 b1 b2 now now (ins ⟨tick, id⟩ (rem id L)) L) := HP6.out.below hB7; clear hB7 cM))
          go_meet
          case rel =>
            refine ⟨_, HP7.out, (rem_ins ⟨tick, id⟩ (rem id L)).trans (rem_rem id L), fun x hx e => ?_, ?_⟩
            · rcases mem_ins.1 hx with rfl | hx
              · first | exact ⟨rfl, rfl⟩ | exact ⟨trivial, rfl⟩ | simp
              · exact absurd e (mem_rem.1 hx).2
            · exact (cnt_ins ⟨tick, id⟩ (rem id L)).trans (by show cnt id (rem id L) + 1 = _; rw [cnt_rem]; rfl)
        · rw [if_neg hok] at cA
          have HL1 : Hid (armF now L ⟨tick, id⟩ = L) := (show _ = _ by unfold armF; rw [if_neg hok])
          rw [HL1.out] at cA
          rw [decide_eq_false hok] at cM
          clear hok
          go_upto_region 12 with (first
            | (go_at_call 9; refine cA.mono ?_; rintro ex w6 ⟨rfl, hP6⟩; have HP6 : Hid (Pw W w6 b1 b2 now now L L) := hP6; clear hP6 cA)
            | (go_at_call 10; refine (cM _).mono ?_; rintro ex w7 ⟨rfl, hB7⟩; have HP7 : Hid (Pw W w7 b1 b2 now now L L) := HP6.out.below hB7; clear hB7 cM))
          have cW := HP7.out.when id HID.out
          rw [HTT.out.1, HTT.out.2] at cW
          cases th <;>
          · go_wp2_with (first
              | (go_at_call 7; refine cW.mono ?_; rintro ex w8 ⟨rfl, hP8⟩; have HP8 : Hid (Pw W w8 b1 b2 now now L L) := hP8; have cL := hP8.len; clear hP8 cW)
              | (go_at_call 8; refine cL.mono ?_; rintro ex w9 ⟨rfl, hw9⟩; obtain rfl := hw9.symm))
            go_ret
            exact ⟨rfl, HP8.out.bel⟩
      | false =>
        have cC := HP4.out.cancel id HID.out
        rw [HTT.out.2] at cC
        have HNO : Hid ((tickOf (rem id L) id).isSome = false) := (show _ = _ by
          cases e : tickOf (rem id L) id with
          | none => rfl
          | some t => exact absurd rfl (mem_rem.1 (tickOf_some e)).2)
        cases th <;>
        · go_wp2_with (first
            | (go_at_call 11; refine cC.mono ?_; rintro ex w6 ⟨rfl, hP6⟩; have HP6 : Hid (Pw W w6 b1 b2 now now (rem id L) L) := hP6; have cC2 := hP6.cancel id HID.out; rw [HNO.out] at cC2; clear hP6 cC)
            | (go_at_call 11; refine cC2.mono ?_; rintro ex w7 ⟨rfl, hP7⟩; have HP7 : Hid (Pw W w7 b1 b2 now now (rem id (rem id L)) L) := hP7; clear hP7 cC2))
          go_meet
          case rel =>
            refine ⟨_, HP7.out, by rw [rem_rem, rem_rem], fun x hx e => absurd e (mem_rem.1 hx).2, ?_⟩
            rw [rem_rem, cnt_rem]
            rfl
    case rest =>
      obtain ⟨L1, hP, hrm, hid2, hct⟩ := hcut
      have HP : Hid (Pw W wc b1 b2 now now L1 L) := hP
      have HF : Hid (rem id L1 = rem id L ∧ (∀ x, x ∈ L1 → x.i = id → anew = true ∧ x.t = tick) ∧ cnt id L1 = if anew = true then 1 else 0) := ⟨hrm, hid2, hct⟩
      have cA := hP.adv
      clear hP hrm hid2 hct HP4
      go_upto_region 16 with fail
      go_upto_region 17 with (go_at_call 12; refine cA.mono ?_; rintro ex w6 ⟨v, rfl, hq⟩)
      have cB := hq.adv
      clear cA hq
      go_upto_region 18 with (go_at_call 12; refine cB.mono ?_; rintro ex w7 ⟨u, rfl, hr1, hr2, hB7⟩)
      have HR : Hid (Rr W w7 v u L1 L) := ⟨hr1, hr2, hB7⟩
      obtain ⟨va, vc, rfl⟩ : ∃ a c, v = .slice a L1.length c := by
        rcases hr1.2 with ⟨e1, e2⟩ | ⟨g, cap, cur, e, _⟩
        · exact ⟨none, 0, by rw [e1, e2]⟩
        · exact ⟨_, _, e⟩
      obtain ⟨ua, uc, rfl⟩ : ∃ a c, u = .slice a L.length c := by
        rcases hr2.2 with ⟨e1, e2⟩ | ⟨g, cap, cur, e, _⟩
        · exact ⟨none, 0, by rw [e1, e2]⟩
        · exact ⟨_, _, e⟩
      have hc1 : L1.length ≤ 9223372036854775807 := by
        rcases owns_cells2 hr1 with ⟨_, h2, _⟩ | ⟨g, cap, _, _, _, h3, h4, _⟩
        · omega
        · omega
      have hc2 : L.length ≤ 9223372036854775807 := by
        rcases owns_cells2 hr2 with ⟨_, h2, _⟩ | ⟨g, cap, _, _, _, h3, h4, _⟩
        · omega
        · omega
      generalize hn1 : L1.length = n1 at hc1 HR ⊢
      generalize hm1 : L.length = m1 at hc2 HR ⊢
      have HN : Hid (L1.length = n1 ∧ L.length = m1) := ⟨hn1, hm1⟩
      clear hr1 hr2 hB7 cB hn1 hm1 HTT
      go_wp2
      go_loopw [23, 24, 25] (fun k ce d wr => ∃ (kk cc a : Nat), k = .int .i64 kk ∧ ce = .int .i64 cc ∧ d = .int .i64 a ∧ a ≤ n1 ∧ kk ≤ m1 ∧ cc = cnt id (L1.take a) ∧ Jn id L1 L a kk ∧ Rr W wr (.slice va n1 vc) (.slice ua m1 uc) L1 L) (fun _ _ d _ => n1 - (intOf d).toNat)
      case atStart => exact ⟨0, 0, 0, rfl, rfl, rfl, Nat.zero_le _, Nat.zero_le _, rfl, HF.out.1.symm, HR.out⟩
      case round =>
        obtain ⟨kk, cc, a, rfl, rfl, rfl, ha, hkk, hcc, hJ, hR⟩ := hrel
        clear HR
        have HR : Hid (Rr W wr (.slice va n1 vc) (.slice ua m1 uc) L1 L) := hR
        have HJ : Hid (Jn id L1 L a kk) := hJ
        have HCC : Hid (cc = cnt id (L1.take a)) := hcc
        clear hJ hR hcc
        by_cases hal : a < n1
        · obtain ⟨x, hx⟩ : ∃ x, L1[a]? = some x := ⟨_, List.getElem?_eq_getElem (by rw [HN.out.1]; exact hal)⟩
          have hra := HR.out.a
          rw [HN.out.1] at hra
          obtain ⟨gv, rfl⟩ := row_some hra hx
          obtain ⟨r0, r1, _⟩ := row_at hra hx
          have HCT : Hid (cnt id (L1.take (a + 1)) = cc + (if x.i = id then 1 else 0)) := (show _ = _ by rw [List.take_add_one, hx, HCC.out, ← cnt_snoc]; rfl)
          have HXM : Hid (L1[a]? = some x) := hx
          clear hra hx
          by_cases e : x.i = id
          · obtain ⟨e1, e2⟩ := HF.out.2.1 x (at_mem HXM.out) e
            have HJ2 : Hid (Jn id L1 L (a + 1) kk) := HJ.out.l_id HXM.out e
            have HC2 : Hid (cnt id (L1.take (a + 1)) = cc + 1) := (show _ = _ by rw [HCT.out, if_pos e])
            have HNW : Hid (anew = true) := e1
            obtain ⟨xt, xi⟩ := x
            dsimp only at e e2 r0 r1
            subst e e2
            have hccb : cc ≤ a := by
              have h1 := HCC.out
              have h2 : cnt xi (L1.take a) ≤ (L1.take a).length := by unfold cnt; exact List.length_filter_le _ _
              rw [List.length_take] at h2
              omega
            clear HCT HXM
            have e1' := e1
            subst e1'
            clear e1
            go_wp2
            go_roundw
            case rel => exact ⟨kk, cc + 1, a + 1, rfl, by go_num, by go_num, by omega, hkk, HC2.out.symm, HJ2.out, HR.out⟩
            case measure => simp [intOf]; omega
          · have HC2 : Hid (cnt id (L1.take (a + 1)) = cc) := (show _ = _ by rw [HCT.out, if_neg e]; rfl)
            have HE : Hid (x.i ≠ id) := e
            have e3 : (x.i == id) = false := by simpa using e
            obtain ⟨xt, xi⟩ := x
            dsimp only at r0 r1 e3
            clear e HCT
            go_wp2
            go_loopw [23] (fun k wr => ∃ kk : Nat, k = .int .i64 kk ∧ kk ≤ m1 ∧ Jn id L1 L a kk ∧ Rr W wr (.slice (some ⟨gv, 0, none⟩) n1 vc) (.slice ua m1 uc) L1 L) (fun k _ => m1 - (intOf k).toNat)
            case atStart => exact ⟨kk, rfl, hkk, HJ.out, HR.out⟩
            case round =>
              clear r0 r1 HJ HR hkk
              obtain ⟨kk, rfl, hkk, hJ, hR⟩ := hrel
              have HR : Hid (Rr W wr (.slice (some ⟨gv, 0, none⟩) n1 vc) (.slice ua m1 uc) L1 L) := hR
              have HJ : Hid (Jn id L1 L a kk) := hJ
              clear hJ hR
              by_cases hkl : kk < m1
              · obtain ⟨y, hy⟩ : ∃ y, L[kk]? = some y := ⟨_, List.getElem?_eq_getElem (by rw [HN.out.2]; exact hkl)⟩
                have hrb := HR.out.b
                rw [HN.out.2] at hrb
                obtain ⟨gu, rfl⟩ := row_some hrb hy
                obtain ⟨s0, s1, _⟩ := row_at hrb hy
                by_cases ey : y.i = id
                · have HJ2 : Hid (Jn id L1 L a (kk + 1)) := HJ.out.m_id hy ey
                  have ey2 : (y.i == id) = true := by simpa using ey
                  obtain ⟨yt, yi⟩ := y
                  dsimp only at s0 s1 ey2
                  clear hrb hy ey
                  go_wp2
                  go_roundw
                  case rel => exact ⟨kk + 1, by go_num, by omega, HJ2.out, HR.out⟩
                  case measure => simp [intOf]; omega
                · obtain ⟨hyx, hJ2⟩ := HJ.out.next HXM.out HE.out (fun z hz => by rw [hy] at hz; injection hz with hz; rw [← hz]; exact ey)
                  rw [hy] at hyx
                  injection hyx with hyx
                  subst hyx
                  have HJ2 : Hid (Jn id L1 L (a + 1) (kk + 1)) := hJ2
                  have HC : Hid (∀ w', Rr W w' (.slice (some ⟨gv, 0, none⟩) n1 vc) (.slice (some ⟨gu, 0, none⟩) m1 uc) L1 L → w'.cell? ⟨gv, 0 + a * 2, none⟩ = some (.int .i64 xt) ∧ w'.cell? ⟨gv, 0 + a * 2 + 1, none⟩ = some (.int .i64 xi) ∧ w'.cell? ⟨gu, 0 + kk * 2, none⟩ = some (.int .i64 xt) ∧ w'.cell? ⟨gu, 0 + kk * 2 + 1, none⟩ = some (.int .i64 xi)) := (fun w' h => by
                    have h1 := h.a
                    have h2 := h.b
                    rw [HN.out.1] at h1
                    rw [HN.out.2] at h2
                    obtain ⟨p0, p1, _⟩ := row_at h1 HXM.out
                    obtain ⟨p2, p3, _⟩ := row_at h2 hy
                    rw [Nat.zero_add, Nat.zero_add]
                    exact ⟨p0, p1, p2, p3⟩)
                  dsimp only at s0 s1
                  clear hrb hJ2 ey
                  go_upto_region 29 with fail
                  try simp only [Act.put, List.setIfInBounds_toArray, List.set_cons_zero, List.set_cons_succ]
                  refine wp_region_held_drew (S := fun w' => Rr W w' (.slice (some ⟨gv, 0, none⟩) n1 vc) (.slice (some ⟨gu, 0, none⟩) m1 uc) L1 L) (by kernel_rfl) HR.out.drew (fun hS => ?_)
                  refine d_take 0 161 rfl rfl (by kernel_rfl) (by kernel_rfl) (by kernel_rfl) (fun _ _ _ h => h) rfl (fun w' hw' => er_mv _ rfl (.int .i64 kk) rfl) hS ?_
                  simp only [Act.put, List.setIfInBounds_toArray, List.set_cons_zero, List.set_cons_succ]
                  refine d_take 1 162 rfl rfl (by kernel_rfl) (by kernel_rfl) (by kernel_rfl) (fun _ _ _ h => h) rfl (fun w' hw' => er_mv _ rfl (.slice (some ⟨gu, 0, none⟩) m1 uc) rfl) hS ?_
                  simp only [Act.put, List.setIfInBounds_toArray, List.set_cons_zero, List.set_cons_succ]
                  refine d_take 2 163 rfl rfl (by kernel_rfl) (by kernel_rfl) (by kernel_rfl) (fun _ _ _ h => h) rfl (fun w' hw' => er_len22 _ rfl rfl (some ⟨gu, 0, none⟩) m1 uc rfl) hS ?_
                  simp only [Act.put, List.setIfInBounds_toArray, List.set_cons_zero, List.set_cons_succ]
                  refine d_take 3 164 rfl rfl (by kernel_rfl) (by kernel_rfl) (by kernel_rfl) (fun _ _ _ h => h) rfl (fun w' hw' => er_ge3F _ _ _ rfl kk m1 (by omega) rfl rfl) hS ?_
                  simp only [Act.put, List.setIfInBounds_toArray, List.set_cons_zero, List.set_cons_succ]
                  refine d_take 4 165 rfl rfl (by kernel_rfl) (by kernel_rfl) (by kernel_rfl) (fun _ _ _ h => h) rfl (fun w' hw' => er_mv _ rfl (.bool false) rfl) hS ?_
                  simp only [Act.put, List.setIfInBounds_toArray, List.set_cons_zero, List.set_cons_succ]
                  refine d_take 5 166 rfl rfl (by kernel_rfl) (by kernel_rfl) (by kernel_rfl) (fun _ _ _ h => h) rfl (fun w' hw' => er_mv _ rfl (.slice (some ⟨gu, 0, none⟩) m1 uc) rfl) hS ?_
                  simp only [Act.put, List.setIfInBounds_toArray, List.set_cons_zero, List.set_cons_succ]
                  refine d_take 6 167 rfl rfl (by kernel_rfl) (by kernel_rfl) (by kernel_rfl) (fun _ _ _ h => h) rfl (fun w' hw' => er_mv _ rfl (.int .i64 kk) rfl) hS ?_
                  simp only [Act.put, List.setIfInBounds_toArray, List.set_cons_zero, List.set_cons_succ]
                  refine d_take 7 168 rfl rfl (by kernel_rfl) (by kernel_rfl) (by kernel_rfl) (fun _ _ _ h => h) rfl (fun w' hw' => er_idx22 _ _ rfl gu 0 m1 uc kk hkl (by omega) rfl rfl) hS ?_
                  simp only [Act.put, List.setIfInBounds_toArray, List.set_cons_zero, List.set_cons_succ]
                  refine d_take 8 169 rfl rfl (by kernel_rfl) (by kernel_rfl) (by kernel_rfl) (fun _ _ _ h => h) rfl (fun w' hw' => er_load32 _ rfl gu (0 + kk * 2) (.int .i64 xt) (.int .i64 xi) rfl (HC.out w' hw').2.2.1 (HC.out w' hw').2.2.2) hS ?_
                  simp only [Act.put, List.setIfInBounds_toArray, List.set_cons_zero, List.set_cons_succ]
                  refine d_take 9 170 rfl rfl (by kernel_rfl) (by kernel_rfl) (by kernel_rfl) (fun _ _ _ h => h) rfl (fun w' hw' => er_mv _ rfl (.slice (some ⟨gv, 0, none⟩) n1 vc) rfl) hS ?_
                  simp only [Act.put, List.setIfInBounds_toArray, List.set_cons_zero, List.set_cons_succ]
                  refine d_take 10 171 rfl rfl (by kernel_rfl) (by kernel_rfl) (by kernel_rfl) (fun _ _ _ h => h) rfl (fun w' hw' => er_mv _ rfl (.int .i64 a) rfl) hS ?_
                  simp only [Act.put, List.setIfInBounds_toArray, List.set_cons_zero, List.set_cons_succ]
                  refine d_take 11 172 rfl rfl (by kernel_rfl) (by kernel_rfl) (by kernel_rfl) (fun _ _ _ h => h) rfl (fun w' hw' => er_idx22 _ _ rfl gv 0 n1 vc a hal (by omega) rfl rfl) hS ?_
                  simp only [Act.put, List.setIfInBounds_toArray, List.set_cons_zero, List.set_cons_succ]
                  refine d_take 12 173 rfl rfl (by kernel_rfl) (by kernel_rfl) (by kernel_rfl) (fun _ _ _ h => h) rfl (fun w' hw' => er_load32 _ rfl gv (0 + a * 2) (.int .i64 xt) (.int .i64 xi) rfl (HC.out w' hw').1 (HC.out w' hw').2.1) hS ?_
                  simp only [Act.put, List.setIfInBounds_toArray, List.set_cons_zero, List.set_cons_succ]
                  refine d_take 13 174 rfl rfl (by kernel_rfl) (by kernel_rfl) (by kernel_rfl) (fun _ _ _ h => h) rfl (fun w' hw' => er_ne32 _ _ _ rfl xt xi rfl rfl) hS ?_
                  simp only [Act.put, List.setIfInBounds_toArray, List.set_cons_zero, List.set_cons_succ]
                  refine d_take 14 175 rfl rfl (by kernel_rfl) (by kernel_rfl) (by kernel_rfl) (fun _ _ _ h => h) rfl (fun w' hw' => er_pk _ _ _ rfl (.bool false) rfl rfl) hS ?_
                  simp only [Act.put, List.setIfInBounds_toArray, List.set_cons_zero, List.set_cons_succ]
                  refine wpAnyH_done (by kernel_rfl) ?_ _
                  have HR2 : Hid (Rr W wr.drew (.slice (some ⟨gv, 0, none⟩) n1 vc) (.slice (some ⟨gu, 0, none⟩) m1 uc) L1 L) := hS
                  generalize wr.drew = w9 at HR2 ⊢
                  clear hS HC s0 s1 hy
                  go_wp2
                  go_roundw
                  case rel => exact ⟨kk + 1, cc, a + 1, by go_num, rfl, by go_num, by omega, by omega, HC2.out.symm, HJ2.out, HR2.out⟩
                  case measure => simp [intOf]; omega
              · exfalso
                have h1 := (HJ.out.next HXM.out HE.out (fun z hz => by have := lt_of_at hz; rw [HN.out.2] at this; omega)).1
                have := lt_of_at h1
                rw [HN.out.2] at this
                omega
        · have han : a = n1 := by omega
          subst han
          have HCT : Hid (cc = if anew = true then 1 else 0) := (show _ = _ by rw [HCC.out, List.take_of_length_le (by rw [HN.out.1]; exact Nat.le_refl _)]; exact HF.out.2.2)
          clear HCC
          go_wp2
          go_loopw [23] (fun k wr => ∃ kk : Nat, k = .int .i64 kk ∧ kk ≤ m1 ∧ Jn id L1 L a kk ∧ Rr W wr (.slice va a vc) (.slice ua m1 uc) L1 L) (fun k _ => m1 - (intOf k).toNat)
          case atStart => exact ⟨kk, rfl, hkk, HJ.out, HR.out⟩
          case round =>
            clear HJ HR hkk
            obtain ⟨kk, rfl, hkk, hJ, hR⟩ := hrel
            have HR : Hid (Rr W wr (.slice va a vc) (.slice ua m1 uc) L1 L) := hR
            have HJ : Hid (Jn id L1 L a kk) := hJ
            clear hJ hR
            by_cases hkl : kk < m1
            · obtain ⟨y, hy⟩ : ∃ y, L[kk]? = some y := ⟨_, List.getElem?_eq_getElem (by rw [HN.out.2]; exact hkl)⟩
              have hrb := HR.out.b
              rw [HN.out.2] at hrb
              obtain ⟨gu, rfl⟩ := row_some hrb hy
              obtain ⟨s0, s1, _⟩ := row_at hrb hy
              by_cases ey : y.i = id
              · have HJ2 : Hid (Jn id L1 L a (kk + 1)) := HJ.out.m_id hy ey
                have ey2 : (y.i == id) = true := by simpa using ey
                obtain ⟨yt, yi⟩ := y
                dsimp only at s0 s1 ey2
                clear hrb hy ey
                go_wp2
                go_roundw
                case rel => exact ⟨kk + 1, by go_num, by omega, HJ2.out, HR.out⟩
                case measure => simp [intOf]; omega
              · exfalso
                have h1 := HJ.out
                rw [← HN.out.1] at h1
                have := h1.done (fun z hz => by rw [hy] at hz; injection hz with hz; rw [← hz]; exact ey)
                rw [HN.out.2] at this
                omega
            · have hkm : kk = m1 := by omega
              subst hkm
              cases anew with
              | true =>
                have hc : cc = 1 := HCT.out
                subst hc
                go_wp2
                go_ret
                exact ⟨rfl, HR.out.bel⟩
              | false =>
                have hc : cc = 0 := HCT.out
                subst hc
                go_wp2
                go_ret
                exact ⟨rfl, HR.out.bel⟩

theorem forgets_walk (now : Int) (p : Option Addr) (n c : Nat) (xs : List Fi) (id tick : Int) (hid : I6 id) (anew : Bool) (W : World) (hx : Fs W (fun k => k < W.heap.size) p n c xs) :
    Calls Try.prog 3 #[.int .i64 now, .slice p n c, .int .i64 id, .int .i64 tick, .bool anew] W fun ex w' => ex = .returned (.bool true) ∧ Below W.heap.size W w' := by
  by_cases h : now < 0 ∨ now > 1099511627776
  · exact forgets_no now h p n c id tick anew W
  · obtain ⟨k, rfl⟩ : ∃ k : Nat, now = k := ⟨now.toNat, by omega⟩
    exact forgets_yes k (by omega) _ p n c xs id tick hid anew W hx (fun k hk => hk)

end Go.Proofs.Ytdojmmnojpeklaa
