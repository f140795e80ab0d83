/-
  WheelExact's own body: the walk.
-/
import Derived.Test.YtdojmmnojpeklaaWMain
namespace Go.Proofs.Ytdojmmnojpeklaa
open Go.RowKit
set_option linter.unusedVariables false
set_option maxRecDepth 100000

theorem drew_below (w : World) : Below w.heap.size w w.drew := ⟨rfl, rfl, rfl, Nat.le_refl _, fun _ _ => rfl⟩
/-- 'play' on the first pair, with what is laid into its box behind it -/
theorem play_mn (hplay : PlaySpec) {W w : World} {c : Nat → Nat} {q1 q2 b n : Nat} {L : List Fi} {v : Value} {p2 : Pr} {av wv : Value} {ls ks : List Value} {xs1 xs2 : List (List Fi)} (hC : Cl W c q1 q2 ⟨b, n, L, v⟩ p2 av ls xs1 wv ks xs2 [] [] (.slice none 0 0) (.slice none 0 0) w) (kd : Int) (s : Bool) (id tick : Int) (h6 : I6 id ∧ I6 tick) :
    Calls Try.prog 20 #[.agg #[.pointer (some ⟨b, 0, none⟩), .int .i64 n, v], .agg #[.int .i64 kd, .bool s, .int .i64 id, .int .i64 tick]] w fun ex w' => ∃ n' L' va vn vc T la ln lc ka kn kc, ex = .returned (.tuple #[.agg #[.pointer (some ⟨b, 0, none⟩), .int .i64 ((n' : Nat) : Int), .slice va vn vc], .slice la ln lc, .slice ka kn kc, .bool true]) ∧ Mn W q1 q2 ⟨b, n', L', .slice va vn vc⟩ p2 av ls xs1 wv ks xs2 T T (.slice la ln lc) (.slice ka kn kc) (((w'.setCell ⟨q1, 0, none⟩ (.pointer (some ⟨b, 0, none⟩))).setCell ⟨q1, 1, none⟩ (.int .i64 n')).setCell ⟨q1, 2, none⟩ (.slice va vn vc)) ∧ w'.heap[q1]? = some (.cells #[.pointer (some ⟨b, 0, none⟩), .int .i64 n, v] 51) ∧ (∀ x, x ∈ T → I6 x.t ∧ I6 x.i) ∧ T.length ≤ 65536 := by
  have cP := hplay w _ b n _ L v hC.on1.wh (fun k e => (hC.rng k (by rw [e]; decide)).2) hC.on1.row (fun g hg e => by rw [hC.v1 g hg] at e; cases e) kd s id tick h6
  refine cP.mono ?_
  rintro ex w' ⟨n', L', v', T, l, k, rfl, hp, h6T, hT⟩
  have hM := Mn.play hC hp
  have hB := hp.kept.at' hC.on1.box (by rw [hC.b1]; decide)
  obtain ⟨_, va', vc', rfl, -⟩ := owns_fis hp.row
  obtain ⟨_, la, lc, rfl, -⟩ := owns_fis hp.rl
  obtain ⟨_, ka, kc, rfl, -⟩ := owns_fis hp.rk
  exact ⟨n', L', va', _, vc', T, la, _, lc, ka, _, kc, rfl, hM, hB, h6T, hT⟩
theorem app_mn {W w : World} {q1 q2 : Nat} {p1 p2 : Pr} {av wv k : Value} {ls ks : List Value} {xs1 xs2 : List (List Fi)} {T U : List Fi} {la : Option Addr} {ln lc : Nat} (h : Mn W q1 q2 p1 p2 av ls xs1 wv ks xs2 T U (.slice la ln lc) k w) (hls : ls.length ≤ 3000) : ∃ v' w', (Builtin.append_ #[52, 52] 52 #[av, .slice (some ⟨w.heap.size, 0, none⟩) 1 1]).run Try.prog (w.alloc (.cells #[.slice la ln lc] 22)) = .ok v' w' ∧ Mn W q1 q2 p1 p2 v' (ls ++ [.slice la ln lc]) (xs1 ++ [T]) wv ks xs2 [] U (.slice none 0 0) k w' := by
  obtain ⟨i0, hi0, hz0, hz1, hz2⟩ := info_parts info22
  have ho := h.choose_spec.hs1.own
  obtain ⟨v2, w2, ha, own2, gr2, _, hb2⟩ := run_append_own_at (P := Try.prog) (w := w.alloc (.cells #[.slice la ln lc] 22)) 0 52 52 22 i0 (.slice none 0 0) 1 24 Try.underlying52 hi0 hz0 hz1 hz2 rfl (by decide) av ls.length ls (ho.alloc _) ⟨w.heap.size, 0, none⟩ 1 1 [.slice la ln lc] rfl (cell1_new w _) (by intro u hu; simp at hu; subst hu; rfl) (by unfold maxLen; omega) (by omega) (Nat.zero_le _)
  exact ⟨v2, w2, ha, h.more own2 gr2 hb2⟩
theorem few_more {xss : List (List Fi)} {T : List Fi} (h : Few xss) (h6 : ∀ x, x ∈ T → I6 x.t ∧ I6 x.i) (hT : T.length ≤ 65536) : Few (xss ++ [T]) := by
  intro xs hxs
  rcases List.mem_append.1 hxs with hxs | hxs
  · exact h xs hxs
  · rw [List.mem_singleton] at hxs; subst hxs; exact ⟨hT, h6⟩
theorem ks_len {W w : World} {q1 q2 : Nat} {p1 p2 : Pr} {av wv l k : Value} {ls ks : List Value} {xs1 : List (List Fi)} {T U : List Fi} (h : Mn W q1 q2 p1 p2 av ls xs1 wv ks xs1 T U l k w) : ks.length = ls.length := by
  obtain ⟨c, h⟩ := h
  rw [← h.hs1.len, h.hs2.len]
set_option maxHeartbeats 8000000 in
theorem exact_yes (hplay : PlaySpec) (W : World) (n1 n2 : Nat) (h1 : n1 ≤ 1099511627776) (h2 : n2 ≤ 1099511627776) (sa : Option Addr) (N sc : Nat) (os : List Oq) (hO : Oss W (fun k => k < W.heap.size) sa N sc os) (hN : N ≤ 3000) : Calls Try.prog 5 #[.int .i64 n1, .int .i64 n2, .slice sa N sc] W fun ex w' => ex = .returned (.bool true) ∧ Below W.heap.size W w' := by
  have HO : Hid (Oss W (fun k => k < W.heap.size) sa N sc os) := hO
  have HP : Hid PlaySpec := hplay
  have hsc1 := hO.cap
  have hsc2 := hO.max
  have HN : Hid (os.length = N) := hO.len
  have cA := new_wh n1 h1 W
  clear hO hplay
  go_enter Try.func5, Try.ntmps5
  go_upto_region 2 with (go_at_call 18; refine cA.mono ?_; rintro ex w1 ⟨b1, rfl, hW1, hb1⟩)
  have A1 : Hid (Wh w1 (fun k => W.heap.size ≤ k) b1 n1 [] ∧ Below W.heap.size W w1) := ⟨hW1, hb1⟩
  clear cA hW1 hb1
  have cB := new_wh n2 h2 w1
  go_upto_region 3 with (go_at_call 18; refine cB.mono ?_; rintro ex w2 ⟨b2, rfl, hW2, hb2⟩)
  have A2 : Hid (Wh w2 (fun k => w1.heap.size ≤ k) b2 n2 [] ∧ Below w1.heap.size w1 w2) := ⟨hW2, hb2⟩
  clear cB hW2 hb2
  have cC := rnew_yes n1 h1 w2
  unfold mv at cC
  go_upto_region 4 with (go_at_call 19; refine cC.mono ?_; rintro ex w3 ⟨rfl, hb3⟩)
  have A4 : Hid (Below w2.heap.size w2 (w3.alloc (.cells #[.int .i64 n1, .slice none 0 0] 47))) := hb3.trans (((Below.refl _ w3).alloc (Nat.le_refl _) _).mono hb3.size)
  have Q4 : Hid ((w3.alloc (.cells #[.int .i64 n1, .slice none 0 0] 47)).heap[w3.heap.size]? = some (.cells #[.int .i64 n1, .slice none 0 0] 47)) := heap_last _ _
  clear cC hb3
  generalize w3.alloc (.cells #[.int .i64 n1, .slice none 0 0] 47) = w4 at *
  have cD := rnew_yes n2 h2 w4
  unfold mv at cD
  go_upto_region 5 with (go_at_call 19; refine cD.mono ?_; rintro ex w5 ⟨rfl, hb5⟩)
  have A6 : Hid (Below w2.heap.size w2 (w5.alloc (.cells #[.int .i64 n2, .slice none 0 0] 47))) := A4.out.trans ((hb5.trans (((Below.refl _ w5).alloc (Nat.le_refl _) _).mono hb5.size)).mono A4.out.size)
  have Q6 : Hid ((w5.alloc (.cells #[.int .i64 n2, .slice none 0 0] 47)).heap[w5.heap.size]? = some (.cells #[.int .i64 n2, .slice none 0 0] 47)) := heap_last _ _
  have Q4' : Hid ((w5.alloc (.cells #[.int .i64 n2, .slice none 0 0] 47)).heap[w3.heap.size]? = some (.cells #[.int .i64 n1, .slice none 0 0] 47)) := ((Kept.of_below (F := No) hb5).alloc _).at' Q4.out (fun h => h)
  clear cD hb5 Q4 A4
  generalize w5.alloc (.cells #[.int .i64 n2, .slice none 0 0] 47) = w6 at *
  have x0 := cell_of_row (k := 0) (v := .int .i64 n1) Q4'.out rfl
  have x1 := cell_of_row (k := 1) (v := .slice none 0 0) Q4'.out rfl
  go_upto_region 10 with fail
  have HM := mn_new A1.out.1 A1.out.2 A2.out.1 A2.out.2 A6.out
  have Q7 : Hid ((w6.alloc (.cells #[.pointer (some ⟨b1, 0, none⟩), .int .i64 n1, .slice none 0 0] 51)).heap[w5.heap.size]? = some (.cells #[.int .i64 n2, .slice none 0 0] 47)) := ((Kept.refl No w6).alloc _).at' Q6.out (fun h => h)
  have y0 := cell_of_row (k := 0) (v := .int .i64 n2) Q7.out rfl
  have y1 := cell_of_row (k := 1) (v := .slice none 0 0) Q7.out rfl
  have hs7 : (w6.alloc (.cells #[.pointer (some ⟨b1, 0, none⟩), .int .i64 n1, .slice none 0 0] 51)).heap.size = w6.heap.size + 1 := by simp
  clear x0 x1 Q6 Q7 Q4' A1 A2 A6
  generalize w6.alloc (.cells #[.pointer (some ⟨b1, 0, none⟩), .int .i64 n1, .slice none 0 0] 51) = w7 at *
  go_upto_region 11 with fail
  generalize w7.alloc (.cells #[.pointer (some ⟨b2, 0, none⟩), .int .i64 n2, .slice none 0 0] 51) = w8 at *
  generalize w6.heap.size = q1 at *
  clear y0 y1 hs7
  go_wp2
  go_loopw [17, 18, 19] (fun av wv i wr => ∃ j : Nat, j ≤ N ∧ i = .int .i64 j ∧ Mi W q1 (q1 + 1) j av wv wr) (fun _ _ i _ => N - (intOf i).toNat)
  case atStart => exact ⟨0, by omega, rfl, HM⟩
  case round =>
    obtain ⟨j, hj, rfl, p1, p2, ls, ks, xss, hM, hfew, hlen⟩ := hrel
    clear HM
    have hbel : Below W.heap.size W wr := hM.choose_spec.bel
    by_cases hlt : j < N
    · obtain ⟨⟨ok, os', oi, ot⟩, ho⟩ : ∃ o, os[j]? = some o := ⟨_, List.getElem?_eq_getElem (by rw [HN.out]; exact hlt)⟩
      obtain ⟨sg, so, rfl, _, c0, c1, c2, c3⟩ := (HO.out.below hbel).at' j _ ho
      dsimp only at c0 c1 c2 c3
      have h6 : I6 oi ∧ I6 ot := HO.out.i6 _ (List.mem_of_getElem? ho)
      have HF : Hid (Few xss ∧ ls.length = j) := ⟨hfew, hlen⟩
      clear hfew hlen
      by_cases hs : os' = true
      · subst hs
        obtain ⟨cc, hC⟩ := (hM.swap.below (drew_below wr))
        obtain ⟨b, n, L, v⟩ := p2
        obtain ⟨_, va, vc, hv, -⟩ := owns_fis hC.on1.row
        dsimp only at hv
        subst hv
        have cP := play_mn HP.out hC ok true oi ot h6
        have z0 := cell_of_row (k := 0) (v := .pointer (some ⟨b, 0, none⟩)) hC.on1.box rfl
        have z1 := cell_of_row (k := 1) (v := .int .i64 n) hC.on1.box rfl
        have z2 := cell_of_row (k := 2) (v := .slice va L.length vc) hC.on1.box rfl
        obtain ⟨sg', so', esg, _, d0, d1, d2, d3⟩ := (HO.out.below (hbel.trans ((drew_below wr).mono hbel.size))).at' j _ ho
        obtain ⟨rfl, rfl⟩ : sg = sg' ∧ so = so' := by injection esg with esg; injection esg with e1 e2; exact ⟨e1, e2⟩
        dsimp only at d0 d1 d2 d3
        clear esg ho hbel hM
        go_upto_region 18 with fail
        go_region_with (go_at_call 20; refine cP.mono ?_; rintro ex w' ⟨n', L', va', vn', vc', T, la, ln, lc, ka, kn, kc, rfl, hM9, HB, h6T, hT⟩; have p0 := cell_of_row (k := 0) (v := .pointer (some ⟨b, 0, none⟩)) HB rfl; have p1' := cell_of_row (k := 1) (v := .int .i64 n) HB rfl; have p2' := cell_of_row (k := 2) (v := .slice va L.length vc) HB rfl; have pf := fz_row HB; clear HB)
        all_goals
          have hM9' := hM9.swap
          generalize (((w'.setCell ⟨q1 + 1, 0, none⟩ (.pointer (some ⟨b, 0, none⟩))).setCell ⟨q1 + 1, 1, none⟩ (.int .i64 n')).setCell ⟨q1 + 1, 2, none⟩ (.slice va' vn' vc')) = w9 at *
          have hkl := ks_len hM9'
          obtain ⟨v10, w10, ha, hM10⟩ := app_mn hM9' (by rw [HF.out.2]; omega)
          obtain ⟨v11, w11, hb, hM11⟩ := app_mn hM10.flip (by rw [hkl, HF.out.2]; omega)
          have HR : Hid (Mi W q1 (q1 + 1) (j + 1) v10 v11 w11) := ⟨_, _, _, _, _, hM11.flip, few_more HF.out.1 h6T hT, by rw [List.length_append, HF.out.2]; rfl⟩
          clear hM9 hM9' hM10 hM11 hC cP z0 z1 z2 d0 d1 d2 d3 c0 c1 c2 c3 p0 p1' p2' pf
          go_wp2_with (first
            | (at_builtin; refine Go.Lib.wpList_append_run _ rfl _ _ _ _ rfl _ _ rfl rfl _ _ ha ?_)
            | (at_builtin; refine Go.Lib.wpList_append_run _ rfl _ _ _ _ rfl _ _ rfl rfl _ _ hb ?_))
          go_roundw
          case rel => exact ⟨j + 1, by omega, by go_num, HR.out⟩
          case measure => simp [intOf]; omega
      · have hs : os' = false := by cases os' <;> simp_all
        subst hs
        obtain ⟨cc, hC⟩ := (hM.below (drew_below wr))
        obtain ⟨b, n, L, v⟩ := p1
        obtain ⟨_, va, vc, hv, -⟩ := owns_fis hC.on1.row
        dsimp only at hv
        subst hv
        have cP := play_mn HP.out hC ok false oi ot h6
        have z0 := cell_of_row (k := 0) (v := .pointer (some ⟨b, 0, none⟩)) hC.on1.box rfl
        have z1 := cell_of_row (k := 1) (v := .int .i64 n) hC.on1.box rfl
        have z2 := cell_of_row (k := 2) (v := .slice va L.length vc) hC.on1.box rfl
        obtain ⟨sg', so', esg, _, d0, d1, d2, d3⟩ := (HO.out.below (hbel.trans ((drew_below wr).mono hbel.size))).at' j _ ho
        obtain ⟨rfl, rfl⟩ : sg = sg' ∧ so = so' := by injection esg with esg; injection esg with e1 e2; exact ⟨e1, e2⟩
        dsimp only at d0 d1 d2 d3
        clear esg ho hbel hM
        go_upto_region 19 with fail
        go_region_with (go_at_call 20; refine cP.mono ?_; rintro ex w' ⟨n', L', va', vn', vc', T, la, ln, lc, ka, kn, kc, rfl, hM9, HB, h6T, hT⟩; have p0 := cell_of_row (k := 0) (v := .pointer (some ⟨b, 0, none⟩)) HB rfl; have p1' := cell_of_row (k := 1) (v := .int .i64 n) HB rfl; have p2' := cell_of_row (k := 2) (v := .slice va L.length vc) HB rfl; have pf := fz_row HB; clear HB)
        all_goals
          have hM9' := hM9
          generalize (((w'.setCell ⟨q1, 0, none⟩ (.pointer (some ⟨b, 0, none⟩))).setCell ⟨q1, 1, none⟩ (.int .i64 n')).setCell ⟨q1, 2, none⟩ (.slice va' vn' vc')) = w9 at *
          have hkl := ks_len hM9'
          obtain ⟨v10, w10, ha, hM10⟩ := app_mn hM9' (by rw [HF.out.2]; omega)
          obtain ⟨v11, w11, hb, hM11⟩ := app_mn hM10.flip (by rw [hkl, HF.out.2]; omega)
          have HR : Hid (Mi W q1 (q1 + 1) (j + 1) v10 v11 w11) := ⟨_, _, _, _, _, hM11.flip, few_more HF.out.1 h6T hT, by rw [List.length_append, HF.out.2]; rfl⟩
          clear hM9 hM9' hM10 hM11 hC cP z0 z1 z2 d0 d1 d2 d3 c0 c1 c2 c3 p0 p1' p2' pf
          go_wp2_with (first
            | (at_builtin; refine Go.Lib.wpList_append_run _ rfl _ _ _ _ rfl _ _ rfl rfl _ _ ha ?_)
            | (at_builtin; refine Go.Lib.wpList_append_run _ rfl _ _ _ _ rfl _ _ rfl rfl _ _ hb ?_))
          go_roundw
          case rel => exact ⟨j + 1, by omega, by go_num, HR.out⟩
          case measure => simp [intOf]; omega
    · have hjN : ls.length ≤ 3000 := by omega
      obtain ⟨cc, hC⟩ := hM
      obtain ⟨b, n, L, v⟩ := p1
      obtain ⟨b', n', L', v'⟩ := p2
      obtain ⟨_, va, vc, hv, -⟩ := owns_fis hC.on1.row
      obtain ⟨_, va', vc', hv', -⟩ := owns_fis hC.on2.row
      dsimp only at hv hv'
      subst hv hv'
      have cH := held_any hC.hs1 hC.hs2 hfew hjN
      have HK : Hid (∀ w10, Kept (Fl ls) wr w10 → Below W.heap.size W w10 ∧ On w10 (fun k => cc k = 1) q1 ⟨b, n, L, .slice va L.length vc⟩ ∧ On w10 (fun k => cc k = 2) (q1 + 1) ⟨b', n', L', .slice va' L'.length vc'⟩) := (fun w10 hk => by
        have c7 : ∀ k, Fl ls k → cc k = 7 := fun k hk => hC.h1 k (.inr hk)
        refine ⟨hC.bel.trans (hk.below (fun k e => (hC.rng k (by rw [c7 k e]; decide)).1) hC.bel.size), hC.on1.kept hk (fun k e e2 => ?_) (fun g hg e2 => ?_) (fun e2 => ?_), hC.on2.kept hk (fun k e e2 => ?_) (fun g hg e2 => ?_) (fun e2 => ?_)⟩
        · rw [c7 k e2] at e; cases e
        · have e := hC.v1 g hg; rw [c7 g e2] at e; cases e
        · have e := hC.b1; rw [c7 _ e2] at e; cases e
        · rw [c7 k e2] at e; cases e
        · have e := hC.v2 g hg; rw [c7 g e2] at e; cases e
        · have e := hC.b2; rw [c7 _ e2] at e; cases e)
      clear hC hbel hfew
      go_wp2_with (first
        | (go_at_call 21; refine cH.mono ?_; rintro ex w10 ⟨rfl, hk⟩; obtain ⟨hb10, o1, o2⟩ := HK.out w10 hk; have HB10 : Hid (Below W.heap.size W w10) := hb10; have HO2 : Hid (On w10 (fun k => cc k = 2) (q1 + 1) ⟨b', n', L', .slice va' L'.length vc'⟩) := o2; have cX := asked_any o1.wh o1.row 0 (by unfold I6; omega); unfold pv at cX; have x0 := cell_of_row (k := 0) (v := .pointer (some ⟨b, 0, none⟩)) o1.box rfl; have x1 := cell_of_row (k := 1) (v := .int .i64 n) o1.box rfl; have x2 := cell_of_row (k := 2) (v := .slice va L.length vc) o1.box rfl; clear hb10 o1 o2 hk cH)
        | (go_at_call 22; refine cX.mono ?_; rintro ex w11 ⟨rfl, hb11⟩; have o2 := HO2.out.kept (Kept.of_below (F := No) hb11) (fun _ _ e => e) (fun _ _ e => e) (fun e => e); have cY := asked_any o2.wh o2.row 0 (by unfold I6; omega); unfold pv at cY; have y0 := cell_of_row (k := 0) (v := .pointer (some ⟨b', 0, none⟩)) o2.box rfl; have y1 := cell_of_row (k := 1) (v := .int .i64 n') o2.box rfl; have y2 := cell_of_row (k := 2) (v := .slice va' L'.length vc') o2.box rfl; have HB11 : Hid (Below W.heap.size W w11) := HB10.out.trans (hb11.mono HB10.out.size); clear o2 hb11 cX x0 x1 x2)
        | (go_at_call 22; refine cY.mono ?_; rintro ex w12 ⟨rfl, hb12⟩; have HB12 : Hid (Below W.heap.size W w12) := HB11.out.trans (hb12.mono HB11.out.size); clear hb12 cY))
      go_ret
      exact ⟨rfl, HB12.out⟩
end Go.Proofs.Ytdojmmnojpeklaa
