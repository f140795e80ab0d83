/-
  'WheelFires'.
-/
import Derived.Test.YtdojmmnojpeklaaWPq
import Derived.BigQuiet
namespace Go.Proofs.Ytdojmmnojpeklaa
open Go.RowKit
set_option linter.unusedVariables false

/-- a slice of ints that is read -/
structure Is (w : World) (F : Nat → Prop) (a : Option Addr) (n c : Nat) (ss : List Int) : Prop where
  len : ss.length = n
  cap : n ≤ c
  max : c ≤ 9223372036854775807
  i6 : ∀ x, x ∈ ss → I6 x
  at' : ∀ i x, ss[i]? = some x → ∃ g o, a = some ⟨g, o, none⟩ ∧ F g ∧ w.cell? ⟨g, o + i, none⟩ = some (.int .i64 x)
theorem Is.below {w w' : World} {F : Nat → Prop} {a : Option Addr} {n c : Nat} {ss : List Int} (h : Is w F a n c ss) (k : Below w.heap.size w w') : Is w' F a n c ss :=
  ⟨h.len, h.cap, h.max, h.i6, fun i x hx => by
    obtain ⟨g, o, e, hg, h1⟩ := h.at' i x hx
    exact ⟨g, o, e, hg, (Kept.of_below (F := No) k).cell h1 (fun h => h)⟩⟩
theorem Wh.few {w : World} {F : Nat → Prop} {b n : Nat} {L : List Fi} (h : Wh w F b n L) : L.length ≤ 65536 := by
  obtain ⟨hn, mb, c, M, S, V, h1, h2, h3, h4⟩ := h
  have := (h3.bound h2).2
  rw [h3.cnt] at this
  exact this
theorem Pz.form {W w : World} {b2 n2 : Nat} {L2 T A : List Fi} {v u : Value} (h : Pz W w b2 n2 L2 v T u A) : ∃ a c, u = .slice a A.length c := by
  rcases h.rowu.2 with ⟨e1, e2⟩ | ⟨g, cap, cur, e, _⟩
  · exact ⟨none, 0, by rw [e1, e2]⟩
  · exact ⟨_, _, e⟩
theorem tick_mem {L : List Fi} (hs : L.Pairwise lt2) (hu : ∀ x y, x ∈ L → y ∈ L → x.i = y.i → x = y) {x : Fi} (hx : x ∈ L) : tickOf L x.i = some x.t := by
  cases e : tickOf L x.i with
  | none => exact absurd rfl (tickOf_none e x hx)
  | some t => exact congrArg some (congrArg Fi.t (hu _ _ hx (tickOf_some e) rfl)).symm

set_option maxHeartbeats 8000000 in
set_option maxRecDepth 100000 in
theorem fires_yes (now : Nat) (hnow : now ≤ 1099511627776) (G : Nat → Prop) (p : Option Addr) (n c : Nat) (xs : List Fi) (ps : Option Addr) (sn sc : Nat) (ss : List Int) (W : World) (hx : Fs W G p n c xs) (hG : ∀ k, G k → k < W.heap.size) (hsx : Is W G ps sn sc ss) :
    Calls Try.prog 4 #[.int .i64 now, .slice p n c, .slice ps sn sc] W fun ex w' => ex = .returned (.bool true) ∧ Below W.heap.size W w' := by
  have HX : Hid (Fs W G p n c xs) := hx
  have HSX : Hid (Is W G ps sn sc ss) := hsx
  have HG : Hid (∀ k, G k → k < W.heap.size) := hG
  have cF := filled_yes now hnow G p n c xs W hx hG
  have hcap := hx.cap
  have hmax := hx.max
  have hscap := hsx.cap
  have hsmax := hsx.max
  have a1 : ¬ ((now : Int) < 0) := by omega
  have a2 : ¬ ((now : Int) > 1099511627776) := by omega
  obtain ⟨L, hL⟩ : ∃ L, L = armL now xs := ⟨_, rfl⟩
  rw [← hL] at cF
  have HL : Hid (L = armL now xs) := hL
  have HXN : Hid (xs.length = n) := hx.len
  clear hx hG hL hsx
  go_enter Try.func4, Try.ntmps4
  go_upto_region 2 with (go_at_call 6; refine cF.mono ?_; rintro ex w2 ⟨b1, rfl, hW2, hB2⟩)
  have cF2 := filled_yes now hnow G p n c xs w2 (HX.out.below hB2) (fun k hk => Nat.lt_of_lt_of_le (HG.out k hk) hB2.size)
  rw [← HL.out] at cF2
  have HW2 : Hid (Wh w2 (fun k => W.heap.size ≤ k) b1 now L ∧ Below W.heap.size W w2) := ⟨hW2, hB2⟩
  clear cF hW2 hB2
  go_upto_region 3 with (go_at_call 6; refine cF2.mono ?_; rintro ex w3 ⟨b2, rfl, hW3, hB3⟩)
  have HP : Hid (Pw W w3 b1 b2 now now L L) := (by
    obtain ⟨g1, g2⟩ := HW2.out
    refine ⟨fun k => W.heap.size ≤ k ∧ k < w2.heap.size, fun k => w2.heap.size ≤ k, g1.bound.below hB3, hW3, fun k hk hn => by have := hk.2; omega, fun k hk => hk.1, fun k hk => Nat.le_trans g2.size hk, g2.trans (hB3.mono g2.size)⟩)
  have HLF : Hid (L.Pairwise lt2 ∧ (∀ x y, x ∈ L → y ∈ L → x.i = y.i → x = y) ∧ (∀ x, x ∈ L → Ok now x) ∧ ∀ i, lastT now i xs = tickOf L i) := (by
    obtain ⟨g1, g2⟩ := HW2.out
    exact ⟨g1.sorted, fun x y hx hy e => g1.uniq hx hy e, g1.ok, fun i => by rw [HL.out]; exact last_tick_all now i xs⟩)
  have HFW : Hid (L.length ≤ 65536) := HW2.out.1.few
  clear cF2 hW3 hB3 HW2
  have HBB : Hid ((!decide ((now : Int) < 0) && !decide (1099511627776 < (now : Int))) = true) := (by rw [decide_eq_false (show ¬ ((now : Int) < 0) by omega), decide_eq_false (show ¬ (1099511627776 < (now : Int)) by omega)]; rfl)
  by_cases hlen : (n : Int) > 3000
  · go_wp2
    go_ret
    exact ⟨congrArg (fun z => Ending.returned (Value.bool z)) HBB.out, HP.out.bel⟩
  by_cases hslen : (sn : Int) > 3000
  · go_wp2
    go_ret
    exact ⟨congrArg (fun z => Ending.returned (Value.bool z)) HBB.out, HP.out.bel⟩
  have cA := HP.out.advT
  clear HP
  go_upto_region 8 with (go_at_call 12; refine cA.mono ?_; rintro ex w4 ⟨v, rfl, hP4⟩)
  obtain ⟨va, vc, rfl⟩ : ∃ a c, v = .slice a L.length c := by
    rcases hP4.row.2 with ⟨e1, e2⟩ | ⟨g, cap, cur, e, _⟩
    · exact ⟨none, 0, by rw [e1, e2]⟩
    · exact ⟨_, _, e⟩
  have HI6 : Hid (∀ x, x ∈ L → I6 x.t ∧ I6 x.i) := (fun x hx => by have := HLF.out.2.2.1 x hx; unfold Ok at this; unfold I6; omega)
  generalize hm1 : L.length = m1 at hP4 ⊢
  have HM1 : Hid (L.length = m1) := hm1
  have HP4 : Hid (Pt W w4 b1 b2 1099511627776 now [] L (.slice va m1 vc) L) := hP4
  have hrow := hP4.row
  rw [hm1] at hrow
  have FL := Fs.of_own hrow HI6.out
  have hm1m : m1 ≤ 9223372036854775807 := Nat.le_trans FL.cap FL.max
  have cO := ordered_yes _ va m1 vc L now 1099511627775 w4 FL HLF.out.1 (fun x hx => by have := HLF.out.2.2.1 x hx; unfold Ok at this; omega)
  clear cA hP4 hm1 hrow FL
  go_upto_region 10 with (first
    | (go_at_call 13; refine cO.mono ?_; rintro ex w5 ⟨rfl, q5, hw5⟩; have HP5 : Hid (Pt W w5 b1 b2 1099511627776 now [] L (.slice va m1 vc) L) := (by rw [hw5]; exact HP4.out.drewN q5); have cL := HP5.out.len1; have cN := HP5.out.now1; clear hw5 cO HP4)
    | (go_at_call 8; refine cL.mono ?_; rintro ex w6 ⟨rfl, hw6⟩; obtain rfl := hw6.symm)
    | (go_at_call 14; refine cN.mono ?_; rintro ex w6 ⟨rfl, hw6⟩; obtain rfl := hw6.symm))
  clear cL cN
  go_wp2
  go_loopw [11] (fun d wr => ∃ j : Nat, j ≤ m1 ∧ d = .int .i64 j ∧ Pt W wr b1 b2 1099511627776 now [] L (.slice va m1 vc) L) (fun d _ => m1 - (intOf d).toNat)
  case atStart => exact ⟨0, Nat.zero_le _, rfl, HP5.out⟩
  case round =>
    obtain ⟨j, hj, rfl, hP⟩ := hrel
    clear HP5
    have HP : Hid (Pt W wr b1 b2 1099511627776 now [] L (.slice va m1 vc) L) := hP
    clear hP
    by_cases hlt : j < m1
    · obtain ⟨x, hx⟩ : ∃ x, L[j]? = some x := ⟨_, List.getElem?_eq_getElem (by rw [HM1.out]; exact hlt)⟩
      have hrow := HP.out.row
      rw [HM1.out] at hrow
      obtain ⟨gv, rfl⟩ : ∃ g, va = some ⟨g, 0, none⟩ := by
        rcases owns_cells2 hrow with ⟨_, _, e⟩ | ⟨g, cap, h1, _⟩
        · rw [e] at hx; cases hx
        · injection h1 with h1 _ _; exact ⟨g, h1⟩
      obtain ⟨r0, r1, _⟩ := row_at hrow hx
      have cT := last_any now G p n c xs x.i wr (HX.out.below HP.out.bel) (fun k hk => Nat.lt_of_lt_of_le (HG.out k hk) HP.out.bel.size)
      rw [HLF.out.2.2.2 x.i, tick_mem HLF.out.1 HLF.out.2.1 (at_mem hx)] at cT
      dsimp only [Option.getD_some, Option.isSome_some] at cT
      have HRW : Hid (∀ w', Pt W w' b1 b2 1099511627776 now [] L (.slice (some ⟨gv, 0, none⟩) m1 vc) L → w'.cell? ⟨gv, j * 2, none⟩ = some (.int .i64 x.t)) := (fun w' h => by
        have h2 := h.row
        rw [HM1.out] at h2
        exact (row_at h2 hx).1)
      clear hrow hx
      obtain ⟨xt, xi⟩ := x
      dsimp only at r0 r1 cT HRW
      go_upto_region 14 with (go_at_call 15; refine cT.mono ?_; rintro ex w7 ⟨rfl, hb7⟩)
      have HP7 : Hid (Pt W w7 b1 b2 1099511627776 now [] L (.slice (some ⟨gv, 0, none⟩) m1 vc) L) := HP.out.below hb7
      have r0' := HRW.out w7 HP7.out
      clear hb7 r0 r1 cT
      go_wp2
      go_roundw
      case rel => exact ⟨j + 1, by omega, by go_num, HP7.out⟩
      case measure => simp [intOf]; omega
    · clear hj
      go_wp2
      go_loopw [14] (fun d wr => ∃ j : Nat, j ≤ n ∧ d = .int .i64 j ∧ Pt W wr b1 b2 1099511627776 now [] L (.slice va m1 vc) L) (fun d _ => n - (intOf d).toNat)
      case atStart => exact ⟨0, Nat.zero_le _, rfl, HP.out⟩
      case round =>
        clear HP
        obtain ⟨j, hj, rfl, hP⟩ := hrel
        have HP : Hid (Pt W wr b1 b2 1099511627776 now [] L (.slice va m1 vc) L) := hP
        clear hP
        by_cases hlt : j < n
        · obtain ⟨x, hx⟩ : ∃ x, xs[j]? = some x := ⟨_, List.getElem?_eq_getElem (by rw [HXN.out]; exact hlt)⟩
          obtain ⟨g, o, rfl, _, r0, r1⟩ := (HX.out.below HP.out.bel).at' j x hx
          have cT := last_any now G (some ⟨g, o, none⟩) n c xs x.i wr (HX.out.below HP.out.bel) (fun k hk => Nat.lt_of_lt_of_le (HG.out k hk) HP.out.bel.size)
          rw [HLF.out.2.2.2 x.i] at cT
          have HAY : Hid ((tickOf L x.i).isSome = L.any (fun y => y.i == x.i)) := tick_any L x.i
          generalize hbb : (tickOf L x.i).isSome = bb at cT
          have HBO : Hid (bb = L.any (fun y => y.i == x.i)) := (show _ = _ by rw [← hbb]; exact HAY.out)
          generalize (tickOf L x.i).getD 0 = tt at cT
          have HRX : Hid (∀ w', Below W.heap.size W w' → w'.cell? ⟨g, o + j * 2 + 1, none⟩ = some (.int .i64 x.i)) := (fun w' hb => by
            obtain ⟨g2, o2, e, _, q0, q1⟩ := (HX.out.below hb).at' j x hx
            injection e with e
            injection e with e1 e2 _
            subst e1 e2
            exact q1)
          clear hx hbb HAY
          obtain ⟨xt, xi⟩ := x
          dsimp only at r0 r1 cT HBO HRX
          go_upto_region 20 with (go_at_call 15; refine cT.mono ?_; rintro ex w7 ⟨rfl, hb7⟩)
          have HP7 : Hid (Pt W w7 b1 b2 1099511627776 now [] L (.slice va m1 vc) L) := HP.out.below hb7
          clear hb7 r0 r1 cT HP
          go_wp2
          go_loopw [17, 18] (fun f d wr => ∃ k : Nat, k ≤ m1 ∧ d = .int .i64 k ∧ f = .bool ((L.take k).any (fun y => y.i == xi)) ∧ Pt W wr b1 b2 1099511627776 now [] L (.slice va m1 vc) L) (fun _ d _ => m1 - (intOf d).toNat)
          case atStart => exact ⟨0, Nat.zero_le _, rfl, rfl, HP7.out⟩
          case round =>
            clear HP7
            obtain ⟨k, hk, rfl, rfl, hP⟩ := hrel
            have HP : Hid (Pt W wr b1 b2 1099511627776 now [] L (.slice va m1 vc) L) := hP
            clear hP
            by_cases hkl : k < m1
            · obtain ⟨y, hy⟩ : ∃ y, L[k]? = some y := ⟨_, List.getElem?_eq_getElem (by rw [HM1.out]; exact hkl)⟩
              have hrow := HP.out.row
              rw [HM1.out] at hrow
              obtain ⟨gv, rfl⟩ : ∃ g, va = some ⟨g, 0, none⟩ := by
                rcases owns_cells2 hrow with ⟨_, _, e⟩ | ⟨g, cap, h1, _⟩
                · rw [e] at hy; cases hy
                · injection h1 with h1 _ _; exact ⟨g, h1⟩
              obtain ⟨s0, s1, _⟩ := row_at hrow hy
              have r1 := HRX.out wr HP.out.bel
              have HT : Hid ((L.take (k + 1)).any (fun z => z.i == xi) = ((L.take k).any (fun z => z.i == xi) || (y.i == xi))) := (show _ = _ by rw [List.take_add_one, hy, List.any_append]; simp)
              generalize (L.take k).any (fun z => z.i == xi) = f0 at HT ⊢
              obtain ⟨yt, yi⟩ := y
              dsimp only at s0 s1 HT
              clear hrow hy
              cases f0 with
              | true =>
                go_upto_region 24 with fail
                go_quiet (fail)
                go_wp2
                go_roundw
                case rel => exact ⟨k + 1, by omega, by go_num, by rw [HT.out]; rfl, HP.out.drewN _⟩
                case measure => simp [intOf]; omega
              | false =>
                cases hyx : (yi == xi) with
                | true =>
                  have HT2 : Hid ((L.take (k + 1)).any (fun z => z.i == xi) = true) := (show _ = _ by rw [HT.out, hyx]; rfl)
                  clear HT
                  go_upto_region 24 with fail
                  go_quiet (fail)
                  go_wp2
                  go_roundw
                  case rel => exact ⟨k + 1, by omega, by go_num, by rw [HT2.out], HP.out.drewN _⟩
                  case measure => simp [intOf]; omega
                | false =>
                  have HT2 : Hid ((L.take (k + 1)).any (fun z => z.i == xi) = false) := (show _ = _ by rw [HT.out, hyx]; rfl)
                  clear HT
                  go_upto_region 24 with fail
                  go_quiet (fail)
                  go_wp2
                  go_roundw
                  case rel => exact ⟨k + 1, by omega, by go_num, by rw [HT2.out], HP.out.drewN _⟩
                  case measure => simp [intOf]; omega
            · have hkm : k = m1 := by omega
              subst hkm
              have HT : Hid ((L.take k).any (fun z => z.i == xi) = bb) := (show _ = _ by rw [List.take_of_length_le (by rw [HM1.out]; exact Nat.le_refl _), HBO.out])
              rw [HT.out]
              cases bb <;>
              · go_wp2
                go_roundw
                case rel => exact ⟨j + 1, by omega, by go_num, HP.out⟩
                case measure => simp [intOf]; omega
        · have HQ0 : Hid (Pz W wr b2 now L (.slice va m1 vc) L (.slice none 0 0) []) := Pz.of_pt HP.out
          clear HP
          go_wp2
          go_loopw [19, 20] (fun t d wr => ∃ (i : Nat) (A L2 : List Fi) (n2 : Nat) (ua : Option Addr) (uc : Nat), i ≤ sn + 1 ∧ d = .int .i64 i ∧ L = A ++ L2 ∧ (i = sn + 1 → L2 = []) ∧ t = .slice ua A.length uc ∧ Pz W wr b2 n2 L2 (.slice va m1 vc) L (.slice ua A.length uc) A) (fun _ d _ => sn + 1 - (intOf d).toNat)
          case atStart => exact ⟨0, [], L, now, none, 0, Nat.zero_le _, rfl, rfl, (fun h => by omega), rfl, HQ0.out⟩
          case round =>
            clear HQ0
            obtain ⟨i, A, L2, n2, ua, uc, hi, rfl, hLA, hend, rfl, hQ⟩ := hrel
            generalize hna : A.length = na at hQ ⊢
            have HNA : Hid (A.length = na) := hna
            have HLA : Hid (L = A ++ L2) := hLA
            have HQ : Hid (Pz W wr b2 n2 L2 (.slice va m1 vc) L (.slice ua na uc) A) := hQ
            have hn2 := hQ.le
            have hnm : na ≤ m1 := by have := congrArg List.length hLA; rw [List.length_append, HM1.out, hna] at this; omega
            clear hLA hna hQ
            by_cases hie : i ≤ sn
            · have key : i = sn ∨ (i < sn ∧ ∃ s, ss[i]? = some s ∧ s < 0) ∨ (i < sn ∧ ∃ s, ss[i]? = some s ∧ 0 ≤ s ∧ 1099511627776 - (n2 : Int) < s) ∨ (i < sn ∧ ∃ k : Nat, ss[i]? = some (k : Int) ∧ k ≤ 1099511627776 - n2) := by
                by_cases h : i < sn
                · obtain ⟨s, hs⟩ : ∃ s, ss[i]? = some s := ⟨_, List.getElem?_eq_getElem (by rw [HSX.out.len]; exact h)⟩
                  by_cases h2 : 0 ≤ s ∧ s ≤ 1099511627776 - (n2 : Int)
                  · exact .inr (.inr (.inr ⟨h, s.toNat, by rw [hs, Int.toNat_of_nonneg h2.1], by omega⟩))
                  · by_cases h3 : s < 0
                    · exact .inr (.inl ⟨h, s, hs, h3⟩)
                    · exact .inr (.inr (.inl ⟨h, s, hs, by omega, by omega⟩))
                · exact .inl (by omega)
              have cNw := HQ.out.now2
              go_upto_if 163 with fail
              go_cut [21] (fun t wx => ∃ tg : Nat, t = .int .i64 tg ∧ n2 ≤ tg ∧ tg ≤ 1099511627776 ∧ (i = sn → tg = 1099511627776) ∧ Pz W wx b2 n2 L2 (.slice va m1 vc) L (.slice ua na uc) A)
              case first =>
                rcases key with hk | ⟨hk, s, hs, h2⟩ | ⟨hk, s, hs, h2, h3⟩ | ⟨hk, k, hs, h2⟩
                · have hnl : ¬ i < sn := by omega
                  go_wp2
                  go_meet
                  exact ⟨1099511627776, rfl, hn2, Nat.le_refl _, fun _ => rfl, HQ.out⟩
                · obtain ⟨g, o, rfl, _, r0⟩ := (HSX.out.below HQ.out.bel).at' i s hs
                  have hd : decide (0 ≤ s) = false := decide_eq_false (by omega)
                  go_upto_region 34 with (go_at_call 14; refine cNw.mono ?_; rintro ex w6 ⟨rfl, hw6⟩; obtain rfl := hw6.symm)
                  go_quiet ((go_at_call 14; first | exact Calls.quiet_of_same cNw | exact Calls.quiet_of_same (HQ.out.drewN _).now2))
                  go_wp2
                  go_meet
                  exact ⟨n2, rfl, Nat.le_refl _, hn2, (fun h => absurd h (by omega)), HQ.out.drewN _⟩
                · obtain ⟨g, o, rfl, _, r0⟩ := (HSX.out.below HQ.out.bel).at' i s hs
                  have hd : decide (0 ≤ s) = true := decide_eq_true (by omega)
                  have hd2 : decide (s ≤ 1099511627776 - (n2 : Int)) = false := decide_eq_false (by omega)
                  go_upto_region 34 with (go_at_call 14; refine cNw.mono ?_; rintro ex w6 ⟨rfl, hw6⟩; obtain rfl := hw6.symm)
                  go_quiet ((go_at_call 14; first | exact Calls.quiet_of_same cNw | exact Calls.quiet_of_same (HQ.out.drewN _).now2))
                  go_wp2
                  go_meet
                  exact ⟨n2, rfl, Nat.le_refl _, hn2, (fun h => absurd h (by omega)), HQ.out.drewN _⟩
                · obtain ⟨g, o, rfl, _, r0⟩ := (HSX.out.below HQ.out.bel).at' i (k : Int) hs
                  have hd : decide (0 ≤ (k : Int)) = true := decide_eq_true (by omega)
                  have hd2 : decide ((k : Int) ≤ 1099511627776 - (n2 : Int)) = true := decide_eq_true (by omega)
                  go_upto_region 34 with (go_at_call 14; refine cNw.mono ?_; rintro ex w6 ⟨rfl, hw6⟩; obtain rfl := hw6.symm)
                  go_quiet ((go_at_call 14; first | exact Calls.quiet_of_same cNw | exact Calls.quiet_of_same (HQ.out.drewN _).now2))
                  go_upto_region 35 with fail
                  have HQ5 : Hid (Pz W (wr.drewN nq) b2 n2 L2 (.slice va m1 vc) L (.slice ua na uc) A) := HQ.out.drewN nq
                  have r5 : (wr.drewN nq).cell? ⟨g, o + i, none⟩ = some (.int .i64 k) := r0
                  generalize wr.drewN nq = w5 at HQ5 r5 ⊢
                  clear r0
                  go_quiet ((go_at_call 14; exact Calls.quiet_of_same (HQ5.out.drewN _).now2))
                  go_wp2
                  go_meet
                  exact ⟨n2 + k, by rw [Int.natCast_add], by omega, by omega, (fun h => absurd h (by omega)), HQ5.out.drewN _⟩
              case rest =>
                obtain ⟨tg, rfl, ht1, ht2, hTE, hQC⟩ := hcut
                have HTE : Hid (i = sn → tg = 1099511627776) := hTE
                have HQC : Hid (Pz W wc b2 n2 L2 (.slice va m1 vc) L (.slice ua na uc) A) := hQC
                clear hTE hQC cNw key
                have HOK : Hid (∀ x, x ∈ L2 → x.t < 1099511627776) := (fun x hx => (HQC.out.ok x hx).2.1)
                go_upto_region 37 with (go_at_call 16; refine HQC.out.next2.mono ?_; rintro ex w7 ⟨rfl, hQ7⟩)
                have cA := hQ7.adv2 tg ht1 ht2
                clear hQ7 HQC
                go_upto_region 38 with (go_at_call 12; refine cA.mono ?_; rintro ex w8 ⟨m, D, L', rfl, hD, hD1, hD2, hDr, hQ8⟩)
                clear cA
                obtain ⟨ma, mc, rfl⟩ : ∃ a c, m = .slice a D.length c := by
                  rcases hDr.2 with ⟨e1, e2⟩ | ⟨g, cap, cur, e, _⟩
                  · exact ⟨none, 0, by rw [e1, e2]⟩
                  · exact ⟨_, _, e⟩
                have HE : Hid (i + 1 = sn + 1 → L' = []) := (fun e => by
                  have := HTE.out (by omega)
                  cases hL' : L' with
                  | nil => rfl
                  | cons y r =>
                    have a1 := hD2 y (by rw [hL']; exact List.mem_cons_self)
                    have a2 := HOK.out y (by rw [hD, hL']; exact List.mem_append_right _ List.mem_cons_self)
                    omega)
                have HLL : Hid (L = (A ++ D) ++ L') := (show _ = _ by rw [HLA.out, hD, List.append_assoc])
                generalize hnd : D.length = nd at hDr ⊢
                have hnn : na + nd ≤ m1 := by have := congrArg List.length HLL.out; rw [List.length_append, List.length_append, HM1.out, HNA.out, hnd] at this; omega
                have hDr' : Hid (w8.ownsRow 0 32 2 (.slice ma nd mc) D.length (fcL D)) := (by rw [hnd]; exact hDr)
                have HRU : Hid (w8.ownsRow W.heap.size 32 2 (.slice ua na uc) A.length (fcL A)) := hQ8.rowu
                have HSZ : Hid (W.heap.size ≤ w8.heap.size) := hQ8.bel.size
                have HBL : Hid (A.length + D.length ≤ 1000000) := (by have := HFW.out; rw [HM1.out] at this; rw [HNA.out, hnd]; show _ ≤ _; omega)
                have HQ8 : Hid _ := hQ8
                have HPUT : Hid (∀ v9 w9, w9.ownsRow W.heap.size 32 2 v9 (A ++ D).length (fcL (A ++ D)) → Kept (fun b => (Value.slice ua na uc).ownBlock = some b) w8 w9 → (v9.ownBlock = (Value.slice ua na uc).ownBlock ∨ ∃ b, v9.ownBlock = some b ∧ w8.heap.size ≤ b) → ∃ a c, v9 = .slice a (na + nd) c ∧ ∃ n2', Pz W w9 b2 n2' L' (.slice va m1 vc) L (.slice a (A ++ D).length c) (A ++ D) ∧ (A ++ D).length = na + nd) := (fun v9 w9 q1 q2 q3 => by
                  have e9 : (A ++ D).length = na + nd := by rw [List.length_append, HNA.out, hnd]
                  obtain ⟨a, c, rfl⟩ : ∃ a c, v9 = .slice a (A ++ D).length c := by
                    rcases q1.2 with ⟨e1, e2⟩ | ⟨g, cap, cur, e, _⟩
                    · exact ⟨none, 0, by rw [e1, e2]⟩
                    · exact ⟨_, _, e⟩
                  exact ⟨a, c, by rw [e9], _, Pz.put HQ8.out q1 q2 q3, e9⟩)
                have hrow8 := Pz.row HQ8.out
                rw [HM1.out] at hrow8
                clear hQ8 HQ8 hDr HOK HTE
                cases L2 with
                | nil =>
                  obtain ⟨rfl, rfl⟩ := List.append_eq_nil_iff.1 hD.symm
                  have hnd0 : nd = 0 := hnd.symm
                  have hnm2 : na = m1 := by have := congrArg List.length HLA.out; rw [List.length_append, HM1.out, HNA.out] at this; exact this.symm
                  subst hnd0
                  subst hnm2
                  clear hD hD1 hD2 hnd hrow8
                  dsimp only [List.head?_nil, Option.map_none, Option.getD_none, Option.isSome_none]
                  go_upto_region 41 with (at_builtin; refine wl_app2 rfl _ _ rfl W.heap.size (.slice ua na uc) (.slice ma 0 mc) A [] rfl HRU.out rfl hDr'.out HSZ.out HBL.out ?_; intro v9 w9 own9 kp9 hb9; obtain ⟨a9, c9, rfl, n9, hP9, e9⟩ := HPUT.out v9 w9 own9.out kp9.out hb9.out)
                  have HP9 : Hid (Pz W w9 b2 n9 [] (.slice va na vc) L (.slice a9 (A ++ []).length c9) (A ++ [])) := hP9
                  have HE9 : Hid ((A ++ ([] : List Fi)).length = na + 0) := e9
                  clear hP9 e9 own9 kp9 hb9 HPUT
                  go_wp2
                  go_roundw
                  case rel => exact ⟨i + 1, A ++ [], [], n9, a9, c9, by omega, by go_num, HLL.out, HE.out, by rw [HE9.out]; rfl, HP9.out⟩
                  case measure => simp [intOf]; omega
                | cons x L3 =>
                  have hnlt : na < m1 := by have := congrArg List.length HLA.out; rw [List.length_append, HM1.out, HNA.out, List.length_cons] at this; omega
                  have hxL : L[na]? = some x := by rw [HLA.out, List.getElem?_append_right (by rw [HNA.out]; exact Nat.le_refl _), HNA.out, Nat.sub_self]; rfl
                  obtain ⟨gv, hva⟩ : ∃ g, va = some ⟨g, 0, none⟩ := by
                    rcases owns_cells2 hrow8 with ⟨_, _, e⟩ | ⟨g, cap, h1, _⟩
                    · rw [e] at hxL; cases hxL
                    · injection h1 with h1 _ _; exact ⟨g, h1⟩
                  subst hva
                  obtain ⟨x0, x1, _⟩ := row_at hrow8 hxL
                  clear hrow8 hxL
                  obtain ⟨xt, xi⟩ := x
                  dsimp only [List.head?_cons, Option.map_some, Option.getD_some, Option.isSome_some] at x0 x1 ⊢
                  cases D with
                  | nil =>
                    have hnd0 : nd = 0 := hnd.symm
                    subst hnd0
                    have hL' : L' = ⟨xt, xi⟩ :: L3 := hD.symm
                    subst hL'
                    dsimp only [List.nil_append, List.head?_cons, Option.map_some, Option.getD_some, Option.isSome_some]
                    clear hD hD1 hD2 hnd
                    go_upto_region 41 with (at_builtin; refine wl_app2 rfl _ _ rfl W.heap.size (.slice ua na uc) (.slice ma 0 mc) A [] rfl HRU.out rfl hDr'.out HSZ.out HBL.out ?_; intro v9 w9 own9 kp9 hb9; obtain ⟨a9, c9, rfl, n9, hP9, e9⟩ := HPUT.out v9 w9 own9.out kp9.out hb9.out)
                    have HP9 : Hid (Pz W w9 b2 n9 (⟨xt, xi⟩ :: L3) (.slice (some ⟨gv, 0, none⟩) m1 vc) L (.slice a9 (A ++ []).length c9) (A ++ [])) := hP9
                    have HE9 : Hid ((A ++ ([] : List Fi)).length = na + 0) := e9
                    clear hP9 e9 own9 kp9 hb9 HPUT x0 x1
                    go_wp2
                    go_roundw
                    case rel => exact ⟨i + 1, A ++ [], ⟨xt, xi⟩ :: L3, n9, a9, c9, by omega, by go_num, HLL.out, HE.out, by rw [HE9.out]; rfl, HP9.out⟩
                    case measure => simp [intOf]; omega
                  | cons y D' =>
                    have hyx : y = ⟨xt, xi⟩ := by injection hD with h1 _; exact h1.symm
                    subst hyx
                    have hDr2 := hDr'.out
                    obtain ⟨gm, hma⟩ : ∃ g, ma = some ⟨g, 0, none⟩ := by
                      rcases owns_cells2 hDr2 with ⟨_, _, e⟩ | ⟨g, cap, h1, _⟩
                      · cases e
                      · injection h1 with h1 _ _; exact ⟨g, h1⟩
                    subst hma
                    rw [hnd] at hDr2
                    obtain ⟨y0, y1, _⟩ := row_at hDr2 (show (Fi.mk xt xi :: D')[0]? = some _ from rfl)
                    rw [Nat.zero_mul] at y0
                    have hndp : 0 < nd := by rw [← hnd, List.length_cons]; omega
                    dsimp only [List.cons_append, List.head?_cons, Option.map_some, Option.getD_some, Option.isSome_some]
                    clear hD hD1 hD2 hDr2 hnd y1
                    go_upto_region 41 with (at_builtin; refine wl_app2 rfl _ _ rfl W.heap.size (.slice ua na uc) (.slice (some ⟨gm, 0, none⟩) nd mc) A (⟨xt, xi⟩ :: D') rfl HRU.out rfl hDr'.out HSZ.out HBL.out ?_; intro v9 w9 own9 kp9 hb9; obtain ⟨a9, c9, rfl, n9, hP9, e9⟩ := HPUT.out v9 w9 own9.out kp9.out hb9.out)
                    have HP9 : Hid (Pz W w9 b2 n9 L' (.slice (some ⟨gv, 0, none⟩) m1 vc) L (.slice a9 (A ++ (⟨xt, xi⟩ :: D')).length c9) (A ++ (⟨xt, xi⟩ :: D'))) := hP9
                    have HE9 : Hid ((A ++ (⟨xt, xi⟩ :: D')).length = na + nd) := e9
                    clear hP9 e9 own9 kp9 hb9 HPUT x0 x1 y0
                    go_wp2
                    go_roundw
                    case rel => exact ⟨i + 1, A ++ (⟨xt, xi⟩ :: D'), L', n9, a9, c9, by omega, by go_num, HLL.out, HE.out, by rw [HE9.out], HP9.out⟩
                    case measure => simp [intOf]; omega
            · have e : L2 = [] := hend (by omega)
              subst e
              have hAL : A = L := by rw [HLA.out, List.append_nil]
              subst hAL
              have hnn : na = m1 := by rw [← HNA.out, HM1.out]
              subst hnn
              have r1 := HQ.out.rowu
              have r2 := HQ.out.row
              rw [HNA.out] at r1 r2
              have cS := same_eq _ _ ua va na uc vc A wr (Fs.of_own r1 HI6.out) (Fs.of_own r2 HI6.out)
              clear r1 r2
              go_wp2_with (go_at_call 17; refine cS.mono ?_; rintro ex w9 ⟨rfl, q9, hw9⟩)
              go_ret
              exact ⟨rfl, (HQ.out.drewN q9).bel⟩

end Go.Proofs.Ytdojmmnojpeklaa
