/-
  ProcTimers: the walk.
-/
import Derived.Test.YtofkacfchkimiaaPTimG
namespace Go.Proofs.Ytofkacfchkimiaa
open Go.RowKit Plain
set_option linter.unusedVariables false
set_option maxRecDepth 100000

theorem zs_one {w : World} {g : Nat} {x : Int} (h : w.heap[g]? = some (.cells #[.int .i64 x] 2)) : Zs w (fun k => k = g) (some ⟨g, 0, none⟩) 1 1 [x] :=
  ⟨rfl, Nat.le_refl _, by omega, fun e => (by cases e), fun i hi => ⟨g, 0, rfl, rfl, by
    have hi0 : i = 0 := by omega
    subst hi0
    exact cell_of_row _ _ 0 _ _ _ h⟩⟩
set_option maxHeartbeats 8000000 in
theorem timers_law (s u now r : Int) (wk : Bool) (w : World) : Calls Try.prog 3 #[.int .i64 s, .int .i64 u, .int .i64 now, .int .i64 r, .bool wk] w fun e w' => e = .returned (.bool true) ∧ Below w.heap.size w w' := by
  have nw := new_one w q0
  have eq0 : q0.en = 0 ∧ q0.pp = 0 ∧ q0.per = 0 ∧ q0.lim = 0 ∧ q0.ca = 0 ∧ q0.au = false := ⟨rfl, rfl, rfl, rfl, rfl, rfl⟩
  rw [eq0.1, eq0.2.1, eq0.2.2.1, eq0.2.2.2.1, eq0.2.2.2.2.1, eq0.2.2.2.2.2] at nw
  clear eq0
  go_enter Try.func3, Try.ntmps3
  go_upto_region 2 with (go_at_call 8; refine nw.mono ?_; rintro e w1 ⟨rfl, g, cap, t1⟩; clear nw)
  obtain ⟨b, hb⟩ : ∃ b, w.heap.size + 3 = b := ⟨_, rfl⟩
  rw [hb] at t1
  simp only [hb]
  clear hb
  have kn := known_any w1
  have HT : Hid (Tn w w1 b g cap (T1 q0)) := t1
  clear t1
  have ST : Hid (∀ W, Tn w W b g cap (T1 q0) → Calls Try.prog 10 #[.pointer (some ⟨b, 0, none⟩), .int .i64 1, .int .i64 0, .agg #[.int .i64 9, .int .i64 9, .int .i64 9]] W fun e w' => e = .returned (.bool true) ∧ Tw w' b g cap tU ∧ Kept (Bg b g) W w') := fun W t => start_yes (i := 0) W t.1 (by show 0 < 1; omega) (by show 1 ≤ 1048576; omega) low_pl rfl 0 9 9 9 rfl
  go_upto_region 4 with (first
    | (go_at_call 9; refine kn.mono ?_; rintro e w2 ⟨rfl, k2⟩; have H2 : Hid (Tn w w2 b g cap (T1 q0)) := HT.out.keep k2; have st := ST.out w2 H2.out; clear k2 kn)
    | (go_at_call 10; refine st.mono ?_; rintro e w3 ⟨rfl, t3, k3⟩; have H3 : Hid (Tn w w3 b g cap tU) := H2.out.step t3 k3; clear t3 k3 st))
  clear HT ST H2
  have HB : Hid (b < w3.heap.size ∧ g < w3.heap.size) := H3.out.1.low
  have k4 : Kept No w3 (w3.alloc (.cells #[.int .i64 6] 2)) := (Kept.refl No w3).alloc _
  have b4 := alloc_new w3 (.cells #[.int .i64 6] 2)
  have FR := free_yes (i := 0) _ (H3.out.1.keep k4) (by rw [tU_n]; omega) (by rw [tU_n]; omega) tU_st tU_lk
  have WB : Hid (fw s = false ∨ (u ≠ -1 ∧ isT u = false) → Calls Try.prog 11 #[.pointer (some ⟨b, 0, none⟩), .int .i64 1, .int .i64 s, .int .i64 u, .int .i64 4, .int .i64 5, .slice (some ⟨w3.heap.size, 0, none⟩) 1 1] (w3.alloc (.cells #[.int .i64 6] 2)) fun e w' => e = .returned (.bool false) ∧ w' = (w3.alloc (.cells #[.int .i64 6] 2))) := fun h => wait_bad (i := 0) _ FR s u 4 5 _ h
  have WY : Hid (fw s = true → (u = -1 ∨ isT u = true) → Calls Try.prog 11 #[.pointer (some ⟨b, 0, none⟩), .int .i64 1, .int .i64 s, .int .i64 u, .int .i64 4, .int .i64 5, .slice (some ⟨w3.heap.size, 0, none⟩) 1 1] (w3.alloc (.cells #[.int .i64 6] 2)) fun e w' => e = .returned (.bool true) ∧ ∃ ya yc, Tw w' b g cap (tV s u (.slice ya 1 yc)) ∧ w'.ownsRow (w3.alloc (.cells #[.int .i64 6] 2)).heap.size 2 1 (.slice ya 1 yc) 1 ([6].map iv) ∧ Kept (Bg b g) (w3.alloc (.cells #[.int .i64 6] 2)) w') := fun h1 h2 =>
    wait_yes (i := 0) _ (H3.out.1.keep k4) (by rw [tU_n]; omega) (by rw [tU_n]; omega) (by rw [tU_pl]; exact ⟨by decide, by decide⟩) tU_st tU_lk s u 4 5 h1 h2 (zs_one b4) (fun k e => by have := HB.out; omega) (by omega)
  have H4 : Hid (Tn w (w3.alloc (.cells #[.int .i64 6] 2)) b g cap tU) := H3.out.keep k4
  clear k4 b4 FR
  by_cases s2 : s = 2
  · subst s2
    have hs : fw 2 = true := rfl
    by_cases u1 : u = -1
    · subst u1
      have wy := WY.out hs (.inl rfl)
      clear WB WY
      by_cases un : (-1) = now
      · subst un
        cases wk with
        | true =>
          go_upto_region 6 with fail
          go_upto_region 10 with (go_at_call 11; refine wy.mono ?_; rintro e w5 ⟨rfl, xa, xc, t5, _, k5⟩; have H5 : Hid (Tn w w5 b g cap (tV 2 (-1) (.slice xa 1 xc))) := H4.out.step t5 k5; clear t5 k5 wy)
          clear H3 H4 HB
          have CV : Hid (∀ W, Tn w W b g cap (tV 2 (-1) (.slice xa 1 xc)) → (∀ x, Calls Try.prog 12 #[.pointer (some ⟨b, 0, none⟩), .int .i64 1, .int .i64 3, .int .i64 x] W fun e w' => e = .returned (.bool (x != -1 && (-1) == x)) ∧ Kept No W w') ∧ (Calls Try.prog 12 #[.pointer (some ⟨b, 0, none⟩), .int .i64 1, .int .i64 1, .int .i64 (-1)] W fun e w' => e = .returned (.bool false) ∧ Kept No W w') ∧ (Calls Try.prog 12 #[.pointer (some ⟨b, 0, none⟩), .int .i64 1, .int .i64 2, .int .i64 (-1)] W fun e w' => e = .returned (.bool false) ∧ Kept No W w') ∧ (∀ x, Calls Try.prog 13 #[.pointer (some ⟨b, 0, none⟩), .int .i64 x] W fun e w' => e = .returned (.int .i64 (nstep x (-1) (-1))) ∧ Kept No W w') ∧ (Calls Try.prog 14 #[.pointer (some ⟨b, 0, none⟩), .int .i64 1, .int .i64 r] W fun e w' => e = .returned (.bool true) ∧ Tw w' b g cap (tZ 2 (-1) (.slice xa 1 xc) r) ∧ Kept (Bg b g) W w') ∧ ((-1) ≠ -1 → Calls Try.prog 15 #[.pointer (some ⟨b, 0, none⟩), .int .i64 1, .int .i64 3, .int .i64 (-1)] W fun e w' => e = .returned (.bool true) ∧ Tw w' b g cap (tZ 2 (-1) (.slice xa 1 xc) (if 2 = 2 then 0 else 4)) ∧ Kept (Bg b g) W w') ∧ (∀ x, (x != -1 && (-1) == x) = false → Calls Try.prog 15 #[.pointer (some ⟨b, 0, none⟩), .int .i64 1, .int .i64 3, .int .i64 x] W fun e w' => e = .returned (.bool false) ∧ Kept No W w')) := fun W t => by
            obtain ⟨v1, v2, v3, v4, v5, v6, v7, v8⟩ := tV_all 2 (-1) (.slice xa 1 xc)
            have hn1 : (0 : Nat) < (tV 2 (-1) (.slice xa 1 xc)).n := by rw [v1]; omega
            have hn2 : (tV 2 (-1) (.slice xa 1 xc)).n ≤ 1048576 := by rw [v1]; omega
            have d3 : ∀ x, Calls Try.prog 12 #[.pointer (some ⟨b, 0, none⟩), .int .i64 1, .int .i64 3, .int .i64 x] W fun e w' => e = .returned (.bool (x != -1 && (-1) == x)) ∧ Kept No W w' := fun x => by
              have := due_any W t.1 hn1 hn2 3 x
              rw [tV_due3 hs] at this
              exact this
            refine ⟨d3, ?_, ?_, ?_, ?_, ?_, ?_⟩
            · have := due_any W t.1 hn1 hn2 1 (-1)
              rw [tV_due1 hs] at this
              exact this
            · have := due_any W t.1 hn1 hn2 2 (-1)
              rw [tV_due2 hs] at this
              exact this
            · intro x
              have := next_tw W t.1 hn2 x
              rw [v1, tV_next hs] at this
              exact this
            · exact wake_yes (i := 0) W t.1 hn1 hn2 (by rw [v2]; exact ⟨by decide, by decide⟩) (tV_wk hs) r
            · intro hu
              have := fire_yes (i := 0) W t.1 hn1 hn2 (by rw [v2]; exact ⟨by decide, by decide⟩) (by rw [v7]; exact ⟨by decide, by decide⟩) 3 (-1) (by rw [tV_due3 hs]; first | exact absurd rfl hu | simp [hu])
              rw [tV_fire] at this
              exact this
            · intro x hx
              have := d3 x
              rw [hx] at this
              exact fire_not W this
          have ZN : Hid (∀ W R, Tn w W b g cap (tZ 2 (-1) (.slice xa 1 xc) R) → Calls Try.prog 13 #[.pointer (some ⟨b, 0, none⟩), .int .i64 (-1)] W fun e w' => e = .returned (.int .i64 (-1)) ∧ Kept No W w') := fun W R t => by
            have := next_tw W t.1 (by rw [(tZ_all 2 (-1) (.slice xa 1 xc) R).1]; omega) (-1)
            rw [(tZ_all 2 (-1) (.slice xa 1 xc) R).1, tZ_next] at this
            exact this
          have ZW : Hid (∀ W R, Tn w W b g cap (tZ 2 (-1) (.slice xa 1 xc) R) → Calls Try.prog 14 #[.pointer (some ⟨b, 0, none⟩), .int .i64 1, .int .i64 3] W fun e w' => e = .returned (.bool false) ∧ w' = W) := fun W R t => wake_not (i := 0) W t.1 (by rw [(tZ_all 2 (-1) (.slice xa 1 xc) R).1]; omega) (by rw [(tZ_all 2 (-1) (.slice xa 1 xc) R).1]; omega) (tZ_all 2 (-1) (.slice xa 1 xc) R).2.2.2.2.2.2 3
          have d3 := (CV.out _ H5.out).1 (-1)
          have HD3 : ((-1) != -1 && (-1) == (-1)) = false := by decide
          rw [HD3] at d3
          clear HD3
          go_upto_region 12 with (first
            | (go_at_call 12; refine d3.mono ?_; rintro e w6 ⟨rfl, k6⟩; have H6 : Hid (Tn w w6 b g cap (tV 2 (-1) (.slice xa 1 xc))) := H5.out.keep k6; have d1 := (CV.out _ H6.out).2.1; clear k6 d3)
            | (go_at_call 12; refine d1.mono ?_; rintro e w6 ⟨rfl, k6⟩; have H6b : Hid (Tn w w6 b g cap (tV 2 (-1) (.slice xa 1 xc))) := H6.out.keep k6; have d2 := (CV.out _ H6b.out).2.2.1; clear k6 d1)
            | (go_at_call 12; refine d2.mono ?_; rintro e w7 ⟨rfl, k7⟩; have H7 : Hid (Tn w w7 b g cap (tV 2 (-1) (.slice xa 1 xc))) := H6b.out.keep k7; clear k7 d2))
          clear H5 H6 H6b
          have n1 := (CV.out _ H7.out).2.2.2.1 (-1)
          have en1 : nstep (-1) (-1) (-1) = -1 := rfl
          rw [en1] at n1
          clear en1
          have mm : ((-1 : Int) != -1) = false := rfl
          go_upto_region 14 with (go_at_call 13; refine n1.mono ?_; rintro e w8 ⟨rfl, k8⟩; have H7c : Hid (Tn w w8 b g cap (tV 2 (-1) (.slice xa 1 xc))) := H7.out.keep k8; clear k8 n1)
          clear H7
          have wa := (CV.out _ H7c.out).2.2.2.2.1
          go_upto_region 23 with (go_at_call 14; refine wa.mono ?_; rintro e w8 ⟨rfl, t8, k8⟩; have H8 : Hid (Tn w w8 b g cap (tZ 2 (-1) (.slice xa 1 xc) r)) := H7c.out.step t8 k8; clear t8 k8 wa)
          clear H7c CV
          have gz := get_z _ H8.out.1
          refine wp_region_lit ?_
          go_step
          go_step
          go_step
          go_step
          go_step
          refine gz.mono ?_
          rintro e9 w9 ⟨A, rfl, ga, k9⟩
          clear gz
          dsimp only
          have ez : (w9.alloc (.cells #[.int .i64 0, .int .i64 0, .int .i64 0, .int .i64 0, .int .i64 0, .int .i64 0, .int .i64 0, .int .i64 0, .int .i64 0, .int .i64 0, .int .i64 0, .int .i64 0, .int .i64 0, .int .i64 0, .int .i64 0, .int .i64 0, .int .i64 0, .int .i64 0, .int .i64 0, .int .i64 0, .int .i64 0, .int .i64 0, .int .i64 0, .bool false, .int .i64 0, .int .i64 0, .slice none 0 0, .int .i64 0] 48)) = w9.alloc (.cells Z28 48) := rfl
          go_step
          go_step
          go_step
          go_step
          go_step
          go_step
          go_step
          go_step
          go_step
          go_step
          go_step
          go_step
          go_step
          clear ez
          have b10 := alloc_new w9 (.cells Z28 48)
          obtain ⟨ga1, ga2, ga3, ga4, ga5, ga6, ya, yc, ga7, ga8⟩ := ga
          refine wpList_store_row rfl 48 (.tmp 15) (.tmp 142) rfl w9.heap.size A rfl rfl _ Z28 b10 (by rw [ga1]; exact Try.info48) (by rw [ga1]; rfl) ga2 ?_
          simp only [Act.put]
          have h11 := setRow_heap _ w9.heap.size Z28 A 48 (0, 0) b10
          have k11 : Kept No w9 ((w9.alloc (.cells Z28 48)).setRow w9.heap.size A) := ((Kept.refl No w9).alloc _).setRow (.inr (Nat.le_refl _)) _
          have H11 : Hid (Tn w ((w9.alloc (.cells Z28 48)).setRow w9.heap.size A) b g cap (tZ 2 (-1) (.slice xa 1 xc) r)) := (H8.out.keep k9).keep k11
          have c0 : ((w9.alloc (.cells Z28 48)).setRow w9.heap.size A).cell? ⟨w9.heap.size, 0, none⟩ = some (.int .i64 1) := (cell_of_row _ _ 0 _ _ _ h11).trans ga3
          have c3 : ((w9.alloc (.cells Z28 48)).setRow w9.heap.size A).cell? ⟨w9.heap.size, 3, none⟩ = some (.int .i64 (r)) := (cell_of_row _ _ 3 _ _ _ h11).trans ga4
          have c4 : ((w9.alloc (.cells Z28 48)).setRow w9.heap.size A).cell? ⟨w9.heap.size, 4, none⟩ = some (.int .i64 9) := (cell_of_row _ _ 4 _ _ _ h11).trans ga5
          have c22 : ((w9.alloc (.cells Z28 48)).setRow w9.heap.size A).cell? ⟨w9.heap.size, 22, none⟩ = some (.int .i64 (-1)) := (cell_of_row _ _ 22 _ _ _ h11).trans ga6
          have c26 : ((w9.alloc (.cells Z28 48)).setRow w9.heap.size A).cell? ⟨w9.heap.size, 26, none⟩ = some (.slice ya 0 yc) := (cell_of_row _ _ 26 _ _ _ h11).trans ga7
          clear k9 b10 ga1 ga2 ga3 ga4 ga5 ga6 ga7 h11 k11
          generalize ((w9.alloc (.cells Z28 48)).setRow w9.heap.size A) = w11 at *
          have nz := ZN.out _ _ H11.out
          go_wp2_with (first
            | (go_at_call 13; refine nz.mono ?_; rintro e w12 ⟨rfl, k12⟩; have H12 : Hid (Tn w w12 b g cap (tZ 2 (-1) (.slice xa 1 xc) r)) := H11.out.keep k12; have wz := ZW.out _ _ H12.out; clear k12 nz)
            | (go_at_call 14; refine wz.mono ?_; rintro e w13 ⟨rfl, e13⟩; subst e13; clear wz))
          go_ret
          refine ⟨?_, H12.out.2.1.below0⟩
          simp
        | false =>
          go_upto_region 6 with fail
          go_upto_region 10 with (go_at_call 11; refine wy.mono ?_; rintro e w5 ⟨rfl, xa, xc, t5, _, k5⟩; have H5 : Hid (Tn w w5 b g cap (tV 2 (-1) (.slice xa 1 xc))) := H4.out.step t5 k5; clear t5 k5 wy)
          clear H3 H4 HB
          have CV : Hid (∀ W, Tn w W b g cap (tV 2 (-1) (.slice xa 1 xc)) → (∀ x, Calls Try.prog 12 #[.pointer (some ⟨b, 0, none⟩), .int .i64 1, .int .i64 3, .int .i64 x] W fun e w' => e = .returned (.bool (x != -1 && (-1) == x)) ∧ Kept No W w') ∧ (Calls Try.prog 12 #[.pointer (some ⟨b, 0, none⟩), .int .i64 1, .int .i64 1, .int .i64 (-1)] W fun e w' => e = .returned (.bool false) ∧ Kept No W w') ∧ (Calls Try.prog 12 #[.pointer (some ⟨b, 0, none⟩), .int .i64 1, .int .i64 2, .int .i64 (-1)] W fun e w' => e = .returned (.bool false) ∧ Kept No W w') ∧ (∀ x, Calls Try.prog 13 #[.pointer (some ⟨b, 0, none⟩), .int .i64 x] W fun e w' => e = .returned (.int .i64 (nstep x (-1) (-1))) ∧ Kept No W w') ∧ (Calls Try.prog 14 #[.pointer (some ⟨b, 0, none⟩), .int .i64 1, .int .i64 r] W fun e w' => e = .returned (.bool true) ∧ Tw w' b g cap (tZ 2 (-1) (.slice xa 1 xc) r) ∧ Kept (Bg b g) W w') ∧ ((-1) ≠ -1 → Calls Try.prog 15 #[.pointer (some ⟨b, 0, none⟩), .int .i64 1, .int .i64 3, .int .i64 (-1)] W fun e w' => e = .returned (.bool true) ∧ Tw w' b g cap (tZ 2 (-1) (.slice xa 1 xc) (if 2 = 2 then 0 else 4)) ∧ Kept (Bg b g) W w') ∧ (∀ x, (x != -1 && (-1) == x) = false → Calls Try.prog 15 #[.pointer (some ⟨b, 0, none⟩), .int .i64 1, .int .i64 3, .int .i64 x] W fun e w' => e = .returned (.bool false) ∧ Kept No W w')) := fun W t => by
            obtain ⟨v1, v2, v3, v4, v5, v6, v7, v8⟩ := tV_all 2 (-1) (.slice xa 1 xc)
            have hn1 : (0 : Nat) < (tV 2 (-1) (.slice xa 1 xc)).n := by rw [v1]; omega
            have hn2 : (tV 2 (-1) (.slice xa 1 xc)).n ≤ 1048576 := by rw [v1]; omega
            have d3 : ∀ x, Calls Try.prog 12 #[.pointer (some ⟨b, 0, none⟩), .int .i64 1, .int .i64 3, .int .i64 x] W fun e w' => e = .returned (.bool (x != -1 && (-1) == x)) ∧ Kept No W w' := fun x => by
              have := due_any W t.1 hn1 hn2 3 x
              rw [tV_due3 hs] at this
              exact this
            refine ⟨d3, ?_, ?_, ?_, ?_, ?_, ?_⟩
            · have := due_any W t.1 hn1 hn2 1 (-1)
              rw [tV_due1 hs] at this
              exact this
            · have := due_any W t.1 hn1 hn2 2 (-1)
              rw [tV_due2 hs] at this
              exact this
            · intro x
              have := next_tw W t.1 hn2 x
              rw [v1, tV_next hs] at this
              exact this
            · exact wake_yes (i := 0) W t.1 hn1 hn2 (by rw [v2]; exact ⟨by decide, by decide⟩) (tV_wk hs) r
            · intro hu
              have := fire_yes (i := 0) W t.1 hn1 hn2 (by rw [v2]; exact ⟨by decide, by decide⟩) (by rw [v7]; exact ⟨by decide, by decide⟩) 3 (-1) (by rw [tV_due3 hs]; first | exact absurd rfl hu | simp [hu])
              rw [tV_fire] at this
              exact this
            · intro x hx
              have := d3 x
              rw [hx] at this
              exact fire_not W this
          have ZN : Hid (∀ W R, Tn w W b g cap (tZ 2 (-1) (.slice xa 1 xc) R) → Calls Try.prog 13 #[.pointer (some ⟨b, 0, none⟩), .int .i64 (-1)] W fun e w' => e = .returned (.int .i64 (-1)) ∧ Kept No W w') := fun W R t => by
            have := next_tw W t.1 (by rw [(tZ_all 2 (-1) (.slice xa 1 xc) R).1]; omega) (-1)
            rw [(tZ_all 2 (-1) (.slice xa 1 xc) R).1, tZ_next] at this
            exact this
          have ZW : Hid (∀ W R, Tn w W b g cap (tZ 2 (-1) (.slice xa 1 xc) R) → Calls Try.prog 14 #[.pointer (some ⟨b, 0, none⟩), .int .i64 1, .int .i64 3] W fun e w' => e = .returned (.bool false) ∧ w' = W) := fun W R t => wake_not (i := 0) W t.1 (by rw [(tZ_all 2 (-1) (.slice xa 1 xc) R).1]; omega) (by rw [(tZ_all 2 (-1) (.slice xa 1 xc) R).1]; omega) (tZ_all 2 (-1) (.slice xa 1 xc) R).2.2.2.2.2.2 3
          have d3 := (CV.out _ H5.out).1 (-1)
          have HD3 : ((-1) != -1 && (-1) == (-1)) = false := by decide
          rw [HD3] at d3
          clear HD3
          go_upto_region 12 with (first
            | (go_at_call 12; refine d3.mono ?_; rintro e w6 ⟨rfl, k6⟩; have H6 : Hid (Tn w w6 b g cap (tV 2 (-1) (.slice xa 1 xc))) := H5.out.keep k6; have d1 := (CV.out _ H6.out).2.1; clear k6 d3)
            | (go_at_call 12; refine d1.mono ?_; rintro e w6 ⟨rfl, k6⟩; have H6b : Hid (Tn w w6 b g cap (tV 2 (-1) (.slice xa 1 xc))) := H6.out.keep k6; have d2 := (CV.out _ H6b.out).2.2.1; clear k6 d1)
            | (go_at_call 12; refine d2.mono ?_; rintro e w7 ⟨rfl, k7⟩; have H7 : Hid (Tn w w7 b g cap (tV 2 (-1) (.slice xa 1 xc))) := H6b.out.keep k7; clear k7 d2))
          clear H5 H6 H6b
          have n1 := (CV.out _ H7.out).2.2.2.1 (-1)
          have en1 : nstep (-1) (-1) (-1) = -1 := rfl
          rw [en1] at n1
          clear en1
          have mm : ((-1 : Int) != -1) = false := rfl
          go_upto_region 14 with (go_at_call 13; refine n1.mono ?_; rintro e w8 ⟨rfl, k8⟩; have H7c : Hid (Tn w w8 b g cap (tV 2 (-1) (.slice xa 1 xc))) := H7.out.keep k8; clear k8 n1)
          clear H7
          have wa := (CV.out _ H7c.out).2.2.2.2.1
          go_upto_region 23 with (go_at_call 14; refine wa.mono ?_; rintro e w8 ⟨rfl, t8, k8⟩; have H8 : Hid (Tn w w8 b g cap (tZ 2 (-1) (.slice xa 1 xc) r)) := H7c.out.step t8 k8; clear t8 k8 wa)
          clear H7c CV
          have gz := get_z _ H8.out.1
          refine wp_region_lit ?_
          go_step
          go_step
          go_step
          go_step
          go_step
          refine gz.mono ?_
          rintro e9 w9 ⟨A, rfl, ga, k9⟩
          clear gz
          dsimp only
          have ez : (w9.alloc (.cells #[.int .i64 0, .int .i64 0, .int .i64 0, .int .i64 0, .int .i64 0, .int .i64 0, .int .i64 0, .int .i64 0, .int .i64 0, .int .i64 0, .int .i64 0, .int .i64 0, .int .i64 0, .int .i64 0, .int .i64 0, .int .i64 0, .int .i64 0, .int .i64 0, .int .i64 0, .int .i64 0, .int .i64 0, .int .i64 0, .int .i64 0, .bool false, .int .i64 0, .int .i64 0, .slice none 0 0, .int .i64 0] 48)) = w9.alloc (.cells Z28 48) := rfl
          go_step
          go_step
          go_step
          go_step
          go_step
          go_step
          go_step
          go_step
          go_step
          go_step
          go_step
          go_step
          go_step
          clear ez
          have b10 := alloc_new w9 (.cells Z28 48)
          obtain ⟨ga1, ga2, ga3, ga4, ga5, ga6, ya, yc, ga7, ga8⟩ := ga
          refine wpList_store_row rfl 48 (.tmp 15) (.tmp 142) rfl w9.heap.size A rfl rfl _ Z28 b10 (by rw [ga1]; exact Try.info48) (by rw [ga1]; rfl) ga2 ?_
          simp only [Act.put]
          have h11 := setRow_heap _ w9.heap.size Z28 A 48 (0, 0) b10
          have k11 : Kept No w9 ((w9.alloc (.cells Z28 48)).setRow w9.heap.size A) := ((Kept.refl No w9).alloc _).setRow (.inr (Nat.le_refl _)) _
          have H11 : Hid (Tn w ((w9.alloc (.cells Z28 48)).setRow w9.heap.size A) b g cap (tZ 2 (-1) (.slice xa 1 xc) r)) := (H8.out.keep k9).keep k11
          have c0 : ((w9.alloc (.cells Z28 48)).setRow w9.heap.size A).cell? ⟨w9.heap.size, 0, none⟩ = some (.int .i64 1) := (cell_of_row _ _ 0 _ _ _ h11).trans ga3
          have c3 : ((w9.alloc (.cells Z28 48)).setRow w9.heap.size A).cell? ⟨w9.heap.size, 3, none⟩ = some (.int .i64 (r)) := (cell_of_row _ _ 3 _ _ _ h11).trans ga4
          have c4 : ((w9.alloc (.cells Z28 48)).setRow w9.heap.size A).cell? ⟨w9.heap.size, 4, none⟩ = some (.int .i64 9) := (cell_of_row _ _ 4 _ _ _ h11).trans ga5
          have c22 : ((w9.alloc (.cells Z28 48)).setRow w9.heap.size A).cell? ⟨w9.heap.size, 22, none⟩ = some (.int .i64 (-1)) := (cell_of_row _ _ 22 _ _ _ h11).trans ga6
          have c26 : ((w9.alloc (.cells Z28 48)).setRow w9.heap.size A).cell? ⟨w9.heap.size, 26, none⟩ = some (.slice ya 0 yc) := (cell_of_row _ _ 26 _ _ _ h11).trans ga7
          clear k9 b10 ga1 ga2 ga3 ga4 ga5 ga6 ga7 h11 k11
          generalize ((w9.alloc (.cells Z28 48)).setRow w9.heap.size A) = w11 at *
          have nz := ZN.out _ _ H11.out
          go_wp2_with (first
            | (go_at_call 13; refine nz.mono ?_; rintro e w12 ⟨rfl, k12⟩; have H12 : Hid (Tn w w12 b g cap (tZ 2 (-1) (.slice xa 1 xc) r)) := H11.out.keep k12; have wz := ZW.out _ _ H12.out; clear k12 nz)
            | (go_at_call 14; refine wz.mono ?_; rintro e w13 ⟨rfl, e13⟩; subst e13; clear wz))
          go_ret
          refine ⟨?_, H12.out.2.1.below0⟩
          simp
      · have un' : ((-1) == now) = false := by simp [un]
        cases wk with
        | true =>
          go_upto_region 6 with fail
          go_upto_region 10 with (go_at_call 11; refine wy.mono ?_; rintro e w5 ⟨rfl, xa, xc, t5, _, k5⟩; have H5 : Hid (Tn w w5 b g cap (tV 2 (-1) (.slice xa 1 xc))) := H4.out.step t5 k5; clear t5 k5 wy)
          clear H3 H4 HB
          have CV : Hid (∀ W, Tn w W b g cap (tV 2 (-1) (.slice xa 1 xc)) → (∀ x, Calls Try.prog 12 #[.pointer (some ⟨b, 0, none⟩), .int .i64 1, .int .i64 3, .int .i64 x] W fun e w' => e = .returned (.bool (x != -1 && (-1) == x)) ∧ Kept No W w') ∧ (Calls Try.prog 12 #[.pointer (some ⟨b, 0, none⟩), .int .i64 1, .int .i64 1, .int .i64 now] W fun e w' => e = .returned (.bool false) ∧ Kept No W w') ∧ (Calls Try.prog 12 #[.pointer (some ⟨b, 0, none⟩), .int .i64 1, .int .i64 2, .int .i64 now] W fun e w' => e = .returned (.bool false) ∧ Kept No W w') ∧ (∀ x, Calls Try.prog 13 #[.pointer (some ⟨b, 0, none⟩), .int .i64 x] W fun e w' => e = .returned (.int .i64 (nstep x (-1) (-1))) ∧ Kept No W w') ∧ (Calls Try.prog 14 #[.pointer (some ⟨b, 0, none⟩), .int .i64 1, .int .i64 r] W fun e w' => e = .returned (.bool true) ∧ Tw w' b g cap (tZ 2 (-1) (.slice xa 1 xc) r) ∧ Kept (Bg b g) W w') ∧ ((-1) ≠ -1 → Calls Try.prog 15 #[.pointer (some ⟨b, 0, none⟩), .int .i64 1, .int .i64 3, .int .i64 (-1)] W fun e w' => e = .returned (.bool true) ∧ Tw w' b g cap (tZ 2 (-1) (.slice xa 1 xc) (if 2 = 2 then 0 else 4)) ∧ Kept (Bg b g) W w') ∧ (∀ x, (x != -1 && (-1) == x) = false → Calls Try.prog 15 #[.pointer (some ⟨b, 0, none⟩), .int .i64 1, .int .i64 3, .int .i64 x] W fun e w' => e = .returned (.bool false) ∧ Kept No W w')) := fun W t => by
            obtain ⟨v1, v2, v3, v4, v5, v6, v7, v8⟩ := tV_all 2 (-1) (.slice xa 1 xc)
            have hn1 : (0 : Nat) < (tV 2 (-1) (.slice xa 1 xc)).n := by rw [v1]; omega
            have hn2 : (tV 2 (-1) (.slice xa 1 xc)).n ≤ 1048576 := by rw [v1]; omega
            have d3 : ∀ x, Calls Try.prog 12 #[.pointer (some ⟨b, 0, none⟩), .int .i64 1, .int .i64 3, .int .i64 x] W fun e w' => e = .returned (.bool (x != -1 && (-1) == x)) ∧ Kept No W w' := fun x => by
              have := due_any W t.1 hn1 hn2 3 x
              rw [tV_due3 hs] at this
              exact this
            refine ⟨d3, ?_, ?_, ?_, ?_, ?_, ?_⟩
            · have := due_any W t.1 hn1 hn2 1 now
              rw [tV_due1 hs] at this
              exact this
            · have := due_any W t.1 hn1 hn2 2 now
              rw [tV_due2 hs] at this
              exact this
            · intro x
              have := next_tw W t.1 hn2 x
              rw [v1, tV_next hs] at this
              exact this
            · exact wake_yes (i := 0) W t.1 hn1 hn2 (by rw [v2]; exact ⟨by decide, by decide⟩) (tV_wk hs) r
            · intro hu
              have := fire_yes (i := 0) W t.1 hn1 hn2 (by rw [v2]; exact ⟨by decide, by decide⟩) (by rw [v7]; exact ⟨by decide, by decide⟩) 3 (-1) (by rw [tV_due3 hs]; first | exact absurd rfl hu | simp [hu])
              rw [tV_fire] at this
              exact this
            · intro x hx
              have := d3 x
              rw [hx] at this
              exact fire_not W this
          have ZN : Hid (∀ W R, Tn w W b g cap (tZ 2 (-1) (.slice xa 1 xc) R) → Calls Try.prog 13 #[.pointer (some ⟨b, 0, none⟩), .int .i64 (-1)] W fun e w' => e = .returned (.int .i64 (-1)) ∧ Kept No W w') := fun W R t => by
            have := next_tw W t.1 (by rw [(tZ_all 2 (-1) (.slice xa 1 xc) R).1]; omega) (-1)
            rw [(tZ_all 2 (-1) (.slice xa 1 xc) R).1, tZ_next] at this
            exact this
          have ZW : Hid (∀ W R, Tn w W b g cap (tZ 2 (-1) (.slice xa 1 xc) R) → Calls Try.prog 14 #[.pointer (some ⟨b, 0, none⟩), .int .i64 1, .int .i64 3] W fun e w' => e = .returned (.bool false) ∧ w' = W) := fun W R t => wake_not (i := 0) W t.1 (by rw [(tZ_all 2 (-1) (.slice xa 1 xc) R).1]; omega) (by rw [(tZ_all 2 (-1) (.slice xa 1 xc) R).1]; omega) (tZ_all 2 (-1) (.slice xa 1 xc) R).2.2.2.2.2.2 3
          have d3 := (CV.out _ H5.out).1 now
          have HD3 : (now != -1 && (-1) == now) = false := by simp; intro _; exact un
          rw [HD3] at d3
          clear HD3
          go_upto_region 12 with (first
            | (go_at_call 12; refine d3.mono ?_; rintro e w6 ⟨rfl, k6⟩; have H6 : Hid (Tn w w6 b g cap (tV 2 (-1) (.slice xa 1 xc))) := H5.out.keep k6; have d1 := (CV.out _ H6.out).2.1; clear k6 d3)
            | (go_at_call 12; refine d1.mono ?_; rintro e w6 ⟨rfl, k6⟩; have H6b : Hid (Tn w w6 b g cap (tV 2 (-1) (.slice xa 1 xc))) := H6.out.keep k6; have d2 := (CV.out _ H6b.out).2.2.1; clear k6 d1)
            | (go_at_call 12; refine d2.mono ?_; rintro e w7 ⟨rfl, k7⟩; have H7 : Hid (Tn w w7 b g cap (tV 2 (-1) (.slice xa 1 xc))) := H6b.out.keep k7; clear k7 d2))
          clear H5 H6 H6b
          have n1 := (CV.out _ H7.out).2.2.2.1 (-1)
          have en1 : nstep (-1) (-1) (-1) = -1 := rfl
          rw [en1] at n1
          clear en1
          have mm : ((-1 : Int) != -1) = false := rfl
          go_upto_region 14 with (go_at_call 13; refine n1.mono ?_; rintro e w8 ⟨rfl, k8⟩; have H7c : Hid (Tn w w8 b g cap (tV 2 (-1) (.slice xa 1 xc))) := H7.out.keep k8; clear k8 n1)
          clear H7
          have wa := (CV.out _ H7c.out).2.2.2.2.1
          go_upto_region 23 with (go_at_call 14; refine wa.mono ?_; rintro e w8 ⟨rfl, t8, k8⟩; have H8 : Hid (Tn w w8 b g cap (tZ 2 (-1) (.slice xa 1 xc) r)) := H7c.out.step t8 k8; clear t8 k8 wa)
          clear H7c CV
          have gz := get_z _ H8.out.1
          refine wp_region_lit ?_
          go_step
          go_step
          go_step
          go_step
          go_step
          refine gz.mono ?_
          rintro e9 w9 ⟨A, rfl, ga, k9⟩
          clear gz
          dsimp only
          have ez : (w9.alloc (.cells #[.int .i64 0, .int .i64 0, .int .i64 0, .int .i64 0, .int .i64 0, .int .i64 0, .int .i64 0, .int .i64 0, .int .i64 0, .int .i64 0, .int .i64 0, .int .i64 0, .int .i64 0, .int .i64 0, .int .i64 0, .int .i64 0, .int .i64 0, .int .i64 0, .int .i64 0, .int .i64 0, .int .i64 0, .int .i64 0, .int .i64 0, .bool false, .int .i64 0, .int .i64 0, .slice none 0 0, .int .i64 0] 48)) = w9.alloc (.cells Z28 48) := rfl
          go_step
          go_step
          go_step
          go_step
          go_step
          go_step
          go_step
          go_step
          go_step
          go_step
          go_step
          go_step
          go_step
          clear ez
          have b10 := alloc_new w9 (.cells Z28 48)
          obtain ⟨ga1, ga2, ga3, ga4, ga5, ga6, ya, yc, ga7, ga8⟩ := ga
          refine wpList_store_row rfl 48 (.tmp 15) (.tmp 142) rfl w9.heap.size A rfl rfl _ Z28 b10 (by rw [ga1]; exact Try.info48) (by rw [ga1]; rfl) ga2 ?_
          simp only [Act.put]
          have h11 := setRow_heap _ w9.heap.size Z28 A 48 (0, 0) b10
          have k11 : Kept No w9 ((w9.alloc (.cells Z28 48)).setRow w9.heap.size A) := ((Kept.refl No w9).alloc _).setRow (.inr (Nat.le_refl _)) _
          have H11 : Hid (Tn w ((w9.alloc (.cells Z28 48)).setRow w9.heap.size A) b g cap (tZ 2 (-1) (.slice xa 1 xc) r)) := (H8.out.keep k9).keep k11
          have c0 : ((w9.alloc (.cells Z28 48)).setRow w9.heap.size A).cell? ⟨w9.heap.size, 0, none⟩ = some (.int .i64 1) := (cell_of_row _ _ 0 _ _ _ h11).trans ga3
          have c3 : ((w9.alloc (.cells Z28 48)).setRow w9.heap.size A).cell? ⟨w9.heap.size, 3, none⟩ = some (.int .i64 (r)) := (cell_of_row _ _ 3 _ _ _ h11).trans ga4
          have c4 : ((w9.alloc (.cells Z28 48)).setRow w9.heap.size A).cell? ⟨w9.heap.size, 4, none⟩ = some (.int .i64 9) := (cell_of_row _ _ 4 _ _ _ h11).trans ga5
          have c22 : ((w9.alloc (.cells Z28 48)).setRow w9.heap.size A).cell? ⟨w9.heap.size, 22, none⟩ = some (.int .i64 (-1)) := (cell_of_row _ _ 22 _ _ _ h11).trans ga6
          have c26 : ((w9.alloc (.cells Z28 48)).setRow w9.heap.size A).cell? ⟨w9.heap.size, 26, none⟩ = some (.slice ya 0 yc) := (cell_of_row _ _ 26 _ _ _ h11).trans ga7
          clear k9 b10 ga1 ga2 ga3 ga4 ga5 ga6 ga7 h11 k11
          generalize ((w9.alloc (.cells Z28 48)).setRow w9.heap.size A) = w11 at *
          have nz := ZN.out _ _ H11.out
          go_wp2_with (first
            | (go_at_call 13; refine nz.mono ?_; rintro e w12 ⟨rfl, k12⟩; have H12 : Hid (Tn w w12 b g cap (tZ 2 (-1) (.slice xa 1 xc) r)) := H11.out.keep k12; have wz := ZW.out _ _ H12.out; clear k12 nz)
            | (go_at_call 14; refine wz.mono ?_; rintro e w13 ⟨rfl, e13⟩; subst e13; clear wz))
          go_ret
          refine ⟨?_, H12.out.2.1.below0⟩
          simp
        | false =>
          go_upto_region 6 with fail
          go_upto_region 10 with (go_at_call 11; refine wy.mono ?_; rintro e w5 ⟨rfl, xa, xc, t5, _, k5⟩; have H5 : Hid (Tn w w5 b g cap (tV 2 (-1) (.slice xa 1 xc))) := H4.out.step t5 k5; clear t5 k5 wy)
          clear H3 H4 HB
          have CV : Hid (∀ W, Tn w W b g cap (tV 2 (-1) (.slice xa 1 xc)) → (∀ x, Calls Try.prog 12 #[.pointer (some ⟨b, 0, none⟩), .int .i64 1, .int .i64 3, .int .i64 x] W fun e w' => e = .returned (.bool (x != -1 && (-1) == x)) ∧ Kept No W w') ∧ (Calls Try.prog 12 #[.pointer (some ⟨b, 0, none⟩), .int .i64 1, .int .i64 1, .int .i64 now] W fun e w' => e = .returned (.bool false) ∧ Kept No W w') ∧ (Calls Try.prog 12 #[.pointer (some ⟨b, 0, none⟩), .int .i64 1, .int .i64 2, .int .i64 now] W fun e w' => e = .returned (.bool false) ∧ Kept No W w') ∧ (∀ x, Calls Try.prog 13 #[.pointer (some ⟨b, 0, none⟩), .int .i64 x] W fun e w' => e = .returned (.int .i64 (nstep x (-1) (-1))) ∧ Kept No W w') ∧ (Calls Try.prog 14 #[.pointer (some ⟨b, 0, none⟩), .int .i64 1, .int .i64 r] W fun e w' => e = .returned (.bool true) ∧ Tw w' b g cap (tZ 2 (-1) (.slice xa 1 xc) r) ∧ Kept (Bg b g) W w') ∧ ((-1) ≠ -1 → Calls Try.prog 15 #[.pointer (some ⟨b, 0, none⟩), .int .i64 1, .int .i64 3, .int .i64 (-1)] W fun e w' => e = .returned (.bool true) ∧ Tw w' b g cap (tZ 2 (-1) (.slice xa 1 xc) (if 2 = 2 then 0 else 4)) ∧ Kept (Bg b g) W w') ∧ (∀ x, (x != -1 && (-1) == x) = false → Calls Try.prog 15 #[.pointer (some ⟨b, 0, none⟩), .int .i64 1, .int .i64 3, .int .i64 x] W fun e w' => e = .returned (.bool false) ∧ Kept No W w')) := fun W t => by
            obtain ⟨v1, v2, v3, v4, v5, v6, v7, v8⟩ := tV_all 2 (-1) (.slice xa 1 xc)
            have hn1 : (0 : Nat) < (tV 2 (-1) (.slice xa 1 xc)).n := by rw [v1]; omega
            have hn2 : (tV 2 (-1) (.slice xa 1 xc)).n ≤ 1048576 := by rw [v1]; omega
            have d3 : ∀ x, Calls Try.prog 12 #[.pointer (some ⟨b, 0, none⟩), .int .i64 1, .int .i64 3, .int .i64 x] W fun e w' => e = .returned (.bool (x != -1 && (-1) == x)) ∧ Kept No W w' := fun x => by
              have := due_any W t.1 hn1 hn2 3 x
              rw [tV_due3 hs] at this
              exact this
            refine ⟨d3, ?_, ?_, ?_, ?_, ?_, ?_⟩
            · have := due_any W t.1 hn1 hn2 1 now
              rw [tV_due1 hs] at this
              exact this
            · have := due_any W t.1 hn1 hn2 2 now
              rw [tV_due2 hs] at this
              exact this
            · intro x
              have := next_tw W t.1 hn2 x
              rw [v1, tV_next hs] at this
              exact this
            · exact wake_yes (i := 0) W t.1 hn1 hn2 (by rw [v2]; exact ⟨by decide, by decide⟩) (tV_wk hs) r
            · intro hu
              have := fire_yes (i := 0) W t.1 hn1 hn2 (by rw [v2]; exact ⟨by decide, by decide⟩) (by rw [v7]; exact ⟨by decide, by decide⟩) 3 (-1) (by rw [tV_due3 hs]; first | exact absurd rfl hu | simp [hu])
              rw [tV_fire] at this
              exact this
            · intro x hx
              have := d3 x
              rw [hx] at this
              exact fire_not W this
          have ZN : Hid (∀ W R, Tn w W b g cap (tZ 2 (-1) (.slice xa 1 xc) R) → Calls Try.prog 13 #[.pointer (some ⟨b, 0, none⟩), .int .i64 (-1)] W fun e w' => e = .returned (.int .i64 (-1)) ∧ Kept No W w') := fun W R t => by
            have := next_tw W t.1 (by rw [(tZ_all 2 (-1) (.slice xa 1 xc) R).1]; omega) (-1)
            rw [(tZ_all 2 (-1) (.slice xa 1 xc) R).1, tZ_next] at this
            exact this
          have ZW : Hid (∀ W R, Tn w W b g cap (tZ 2 (-1) (.slice xa 1 xc) R) → Calls Try.prog 14 #[.pointer (some ⟨b, 0, none⟩), .int .i64 1, .int .i64 3] W fun e w' => e = .returned (.bool false) ∧ w' = W) := fun W R t => wake_not (i := 0) W t.1 (by rw [(tZ_all 2 (-1) (.slice xa 1 xc) R).1]; omega) (by rw [(tZ_all 2 (-1) (.slice xa 1 xc) R).1]; omega) (tZ_all 2 (-1) (.slice xa 1 xc) R).2.2.2.2.2.2 3
          have d3 := (CV.out _ H5.out).1 now
          have HD3 : (now != -1 && (-1) == now) = false := by simp; intro _; exact un
          rw [HD3] at d3
          clear HD3
          go_upto_region 12 with (first
            | (go_at_call 12; refine d3.mono ?_; rintro e w6 ⟨rfl, k6⟩; have H6 : Hid (Tn w w6 b g cap (tV 2 (-1) (.slice xa 1 xc))) := H5.out.keep k6; have d1 := (CV.out _ H6.out).2.1; clear k6 d3)
            | (go_at_call 12; refine d1.mono ?_; rintro e w6 ⟨rfl, k6⟩; have H6b : Hid (Tn w w6 b g cap (tV 2 (-1) (.slice xa 1 xc))) := H6.out.keep k6; have d2 := (CV.out _ H6b.out).2.2.1; clear k6 d1)
            | (go_at_call 12; refine d2.mono ?_; rintro e w7 ⟨rfl, k7⟩; have H7 : Hid (Tn w w7 b g cap (tV 2 (-1) (.slice xa 1 xc))) := H6b.out.keep k7; clear k7 d2))
          clear H5 H6 H6b
          have n1 := (CV.out _ H7.out).2.2.2.1 (-1)
          have en1 : nstep (-1) (-1) (-1) = -1 := rfl
          rw [en1] at n1
          clear en1
          have mm : ((-1 : Int) != -1) = false := rfl
          go_upto_region 14 with (go_at_call 13; refine n1.mono ?_; rintro e w8 ⟨rfl, k8⟩; have H7c : Hid (Tn w w8 b g cap (tV 2 (-1) (.slice xa 1 xc))) := H7.out.keep k8; clear k8 n1)
          clear H7
          have wa := (CV.out _ H7c.out).2.2.2.2.1
          go_upto_region 23 with (go_at_call 14; refine wa.mono ?_; rintro e w8 ⟨rfl, t8, k8⟩; have H8 : Hid (Tn w w8 b g cap (tZ 2 (-1) (.slice xa 1 xc) r)) := H7c.out.step t8 k8; clear t8 k8 wa)
          clear H7c CV
          have gz := get_z _ H8.out.1
          refine wp_region_lit ?_
          go_step
          go_step
          go_step
          go_step
          go_step
          refine gz.mono ?_
          rintro e9 w9 ⟨A, rfl, ga, k9⟩
          clear gz
          dsimp only
          have ez : (w9.alloc (.cells #[.int .i64 0, .int .i64 0, .int .i64 0, .int .i64 0, .int .i64 0, .int .i64 0, .int .i64 0, .int .i64 0, .int .i64 0, .int .i64 0, .int .i64 0, .int .i64 0, .int .i64 0, .int .i64 0, .int .i64 0, .int .i64 0, .int .i64 0, .int .i64 0, .int .i64 0, .int .i64 0, .int .i64 0, .int .i64 0, .int .i64 0, .bool false, .int .i64 0, .int .i64 0, .slice none 0 0, .int .i64 0] 48)) = w9.alloc (.cells Z28 48) := rfl
          go_step
          go_step
          go_step
          go_step
          go_step
          go_step
          go_step
          go_step
          go_step
          go_step
          go_step
          go_step
          go_step
          clear ez
          have b10 := alloc_new w9 (.cells Z28 48)
          obtain ⟨ga1, ga2, ga3, ga4, ga5, ga6, ya, yc, ga7, ga8⟩ := ga
          refine wpList_store_row rfl 48 (.tmp 15) (.tmp 142) rfl w9.heap.size A rfl rfl _ Z28 b10 (by rw [ga1]; exact Try.info48) (by rw [ga1]; rfl) ga2 ?_
          simp only [Act.put]
          have h11 := setRow_heap _ w9.heap.size Z28 A 48 (0, 0) b10
          have k11 : Kept No w9 ((w9.alloc (.cells Z28 48)).setRow w9.heap.size A) := ((Kept.refl No w9).alloc _).setRow (.inr (Nat.le_refl _)) _
          have H11 : Hid (Tn w ((w9.alloc (.cells Z28 48)).setRow w9.heap.size A) b g cap (tZ 2 (-1) (.slice xa 1 xc) r)) := (H8.out.keep k9).keep k11
          have c0 : ((w9.alloc (.cells Z28 48)).setRow w9.heap.size A).cell? ⟨w9.heap.size, 0, none⟩ = some (.int .i64 1) := (cell_of_row _ _ 0 _ _ _ h11).trans ga3
          have c3 : ((w9.alloc (.cells Z28 48)).setRow w9.heap.size A).cell? ⟨w9.heap.size, 3, none⟩ = some (.int .i64 (r)) := (cell_of_row _ _ 3 _ _ _ h11).trans ga4
          have c4 : ((w9.alloc (.cells Z28 48)).setRow w9.heap.size A).cell? ⟨w9.heap.size, 4, none⟩ = some (.int .i64 9) := (cell_of_row _ _ 4 _ _ _ h11).trans ga5
          have c22 : ((w9.alloc (.cells Z28 48)).setRow w9.heap.size A).cell? ⟨w9.heap.size, 22, none⟩ = some (.int .i64 (-1)) := (cell_of_row _ _ 22 _ _ _ h11).trans ga6
          have c26 : ((w9.alloc (.cells Z28 48)).setRow w9.heap.size A).cell? ⟨w9.heap.size, 26, none⟩ = some (.slice ya 0 yc) := (cell_of_row _ _ 26 _ _ _ h11).trans ga7
          clear k9 b10 ga1 ga2 ga3 ga4 ga5 ga6 ga7 h11 k11
          generalize ((w9.alloc (.cells Z28 48)).setRow w9.heap.size A) = w11 at *
          have nz := ZN.out _ _ H11.out
          go_wp2_with (first
            | (go_at_call 13; refine nz.mono ?_; rintro e w12 ⟨rfl, k12⟩; have H12 : Hid (Tn w w12 b g cap (tZ 2 (-1) (.slice xa 1 xc) r)) := H11.out.keep k12; have wz := ZW.out _ _ H12.out; clear k12 nz)
            | (go_at_call 14; refine wz.mono ?_; rintro e w13 ⟨rfl, e13⟩; subst e13; clear wz))
          go_ret
          refine ⟨?_, H12.out.2.1.below0⟩
          simp
    · have u1' : (u == -1) = false := by simp [u1]
      have u1n : (u != -1) = true := by simp [u1]
      by_cases u0 : 0 ≤ u
      · by_cases u9 : u < 1099511627776
        · have wy := WY.out hs (.inr (by simp [isT, u0, u9]))
          clear WB WY
          by_cases un : u = now
          · subst un
            cases wk with
            | true =>
              go_upto_region 6 with fail
              go_upto_region 10 with (go_at_call 11; refine wy.mono ?_; rintro e w5 ⟨rfl, xa, xc, t5, _, k5⟩; have H5 : Hid (Tn w w5 b g cap (tV 2 u (.slice xa 1 xc))) := H4.out.step t5 k5; clear t5 k5 wy)
              clear H3 H4 HB
              have CV : Hid (∀ W, Tn w W b g cap (tV 2 u (.slice xa 1 xc)) → (∀ x, Calls Try.prog 12 #[.pointer (some ⟨b, 0, none⟩), .int .i64 1, .int .i64 3, .int .i64 x] W fun e w' => e = .returned (.bool (x != -1 && u == x)) ∧ Kept No W w') ∧ (Calls Try.prog 12 #[.pointer (some ⟨b, 0, none⟩), .int .i64 1, .int .i64 1, .int .i64 u] W fun e w' => e = .returned (.bool false) ∧ Kept No W w') ∧ (Calls Try.prog 12 #[.pointer (some ⟨b, 0, none⟩), .int .i64 1, .int .i64 2, .int .i64 u] W fun e w' => e = .returned (.bool false) ∧ Kept No W w') ∧ (∀ x, Calls Try.prog 13 #[.pointer (some ⟨b, 0, none⟩), .int .i64 x] W fun e w' => e = .returned (.int .i64 (nstep x (-1) u)) ∧ Kept No W w') ∧ (Calls Try.prog 14 #[.pointer (some ⟨b, 0, none⟩), .int .i64 1, .int .i64 r] W fun e w' => e = .returned (.bool true) ∧ Tw w' b g cap (tZ 2 u (.slice xa 1 xc) r) ∧ Kept (Bg b g) W w') ∧ (u ≠ -1 → Calls Try.prog 15 #[.pointer (some ⟨b, 0, none⟩), .int .i64 1, .int .i64 3, .int .i64 u] W fun e w' => e = .returned (.bool true) ∧ Tw w' b g cap (tZ 2 u (.slice xa 1 xc) (if 2 = 2 then 0 else 4)) ∧ Kept (Bg b g) W w') ∧ (∀ x, (x != -1 && u == x) = false → Calls Try.prog 15 #[.pointer (some ⟨b, 0, none⟩), .int .i64 1, .int .i64 3, .int .i64 x] W fun e w' => e = .returned (.bool false) ∧ Kept No W w')) := fun W t => by
                obtain ⟨v1, v2, v3, v4, v5, v6, v7, v8⟩ := tV_all 2 u (.slice xa 1 xc)
                have hn1 : (0 : Nat) < (tV 2 u (.slice xa 1 xc)).n := by rw [v1]; omega
                have hn2 : (tV 2 u (.slice xa 1 xc)).n ≤ 1048576 := by rw [v1]; omega
                have d3 : ∀ x, Calls Try.prog 12 #[.pointer (some ⟨b, 0, none⟩), .int .i64 1, .int .i64 3, .int .i64 x] W fun e w' => e = .returned (.bool (x != -1 && u == x)) ∧ Kept No W w' := fun x => by
                  have := due_any W t.1 hn1 hn2 3 x
                  rw [tV_due3 hs] at this
                  exact this
                refine ⟨d3, ?_, ?_, ?_, ?_, ?_, ?_⟩
                · have := due_any W t.1 hn1 hn2 1 u
                  rw [tV_due1 hs] at this
                  exact this
                · have := due_any W t.1 hn1 hn2 2 u
                  rw [tV_due2 hs] at this
                  exact this
                · intro x
                  have := next_tw W t.1 hn2 x
                  rw [v1, tV_next hs] at this
                  exact this
                · exact wake_yes (i := 0) W t.1 hn1 hn2 (by rw [v2]; exact ⟨by decide, by decide⟩) (tV_wk hs) r
                · intro hu
                  have := fire_yes (i := 0) W t.1 hn1 hn2 (by rw [v2]; exact ⟨by decide, by decide⟩) (by rw [v7]; exact ⟨by decide, by decide⟩) 3 u (by rw [tV_due3 hs]; first | exact absurd rfl hu | simp [hu])
                  rw [tV_fire] at this
                  exact this
                · intro x hx
                  have := d3 x
                  rw [hx] at this
                  exact fire_not W this
              have ZN : Hid (∀ W R, Tn w W b g cap (tZ 2 u (.slice xa 1 xc) R) → Calls Try.prog 13 #[.pointer (some ⟨b, 0, none⟩), .int .i64 (-1)] W fun e w' => e = .returned (.int .i64 (-1)) ∧ Kept No W w') := fun W R t => by
                have := next_tw W t.1 (by rw [(tZ_all 2 u (.slice xa 1 xc) R).1]; omega) (-1)
                rw [(tZ_all 2 u (.slice xa 1 xc) R).1, tZ_next] at this
                exact this
              have ZW : Hid (∀ W R, Tn w W b g cap (tZ 2 u (.slice xa 1 xc) R) → Calls Try.prog 14 #[.pointer (some ⟨b, 0, none⟩), .int .i64 1, .int .i64 3] W fun e w' => e = .returned (.bool false) ∧ w' = W) := fun W R t => wake_not (i := 0) W t.1 (by rw [(tZ_all 2 u (.slice xa 1 xc) R).1]; omega) (by rw [(tZ_all 2 u (.slice xa 1 xc) R).1]; omega) (tZ_all 2 u (.slice xa 1 xc) R).2.2.2.2.2.2 3
              have d3 := (CV.out _ H5.out).1 u
              have HD3 : (u != -1 && u == u) = true := by simp [u1]
              rw [HD3] at d3
              clear HD3
              go_upto_region 12 with (first
                | (go_at_call 12; refine d3.mono ?_; rintro e w6 ⟨rfl, k6⟩; have H6 : Hid (Tn w w6 b g cap (tV 2 u (.slice xa 1 xc))) := H5.out.keep k6; have d1 := (CV.out _ H6.out).2.1; clear k6 d3)
                | (go_at_call 12; refine d1.mono ?_; rintro e w6 ⟨rfl, k6⟩; have H6b : Hid (Tn w w6 b g cap (tV 2 u (.slice xa 1 xc))) := H6.out.keep k6; have d2 := (CV.out _ H6b.out).2.2.1; clear k6 d1)
                | (go_at_call 12; refine d2.mono ?_; rintro e w7 ⟨rfl, k7⟩; have H7 : Hid (Tn w w7 b g cap (tV 2 u (.slice xa 1 xc))) := H6b.out.keep k7; clear k7 d2))
              clear H5 H6 H6b
              have n1 := (CV.out _ H7.out).2.2.2.1 u
              have n2 := fun W (t : Tn w W b g cap (tV 2 u (.slice xa 1 xc))) => (CV.out W t).2.2.2.1 (u - 1)
              have en1 : nstep u (-1) u = -1 := by unfold nstep; rw [if_neg (fun h => by omega)]
              have en2 : nstep (u - 1) (-1) u = u := by unfold nstep; rw [if_pos ⟨u1, by omega, .inl rfl⟩]
              rw [en1] at n1
              rw [en2] at n2
              have HN2 : Hid (∀ W, Tn w W b g cap (tV 2 u (.slice xa 1 xc)) → Calls Try.prog 13 #[.pointer (some ⟨b, 0, none⟩), .int .i64 (u - 1)] W fun e w' => e = .returned (.int .i64 u) ∧ Kept No W w') := n2
              clear en1 en2 n2
              have uu : (u != u) = false := by simp
              have mm : ((-1 : Int) != -1) = false := rfl
              go_upto_region 14 with (first
                | (go_at_call 13; refine n1.mono ?_; rintro e w8 ⟨rfl, k8⟩; have H7b : Hid (Tn w w8 b g cap (tV 2 u (.slice xa 1 xc))) := H7.out.keep k8; have n2 := HN2.out _ H7b.out; clear k8 n1)
                | (go_at_call 13; refine n2.mono ?_; rintro e w8 ⟨rfl, k8⟩; have H7c : Hid (Tn w w8 b g cap (tV 2 u (.slice xa 1 xc))) := H7b.out.keep k8; clear k8 n2))
              clear H7 H7b HN2
              have wa := (CV.out _ H7c.out).2.2.2.2.1
              go_upto_region 23 with (go_at_call 14; refine wa.mono ?_; rintro e w8 ⟨rfl, t8, k8⟩; have H8 : Hid (Tn w w8 b g cap (tZ 2 u (.slice xa 1 xc) r)) := H7c.out.step t8 k8; clear t8 k8 wa)
              clear H7c CV
              have gz := get_z _ H8.out.1
              refine wp_region_lit ?_
              go_step
              go_step
              go_step
              go_step
              go_step
              refine gz.mono ?_
              rintro e9 w9 ⟨A, rfl, ga, k9⟩
              clear gz
              dsimp only
              have ez : (w9.alloc (.cells #[.int .i64 0, .int .i64 0, .int .i64 0, .int .i64 0, .int .i64 0, .int .i64 0, .int .i64 0, .int .i64 0, .int .i64 0, .int .i64 0, .int .i64 0, .int .i64 0, .int .i64 0, .int .i64 0, .int .i64 0, .int .i64 0, .int .i64 0, .int .i64 0, .int .i64 0, .int .i64 0, .int .i64 0, .int .i64 0, .int .i64 0, .bool false, .int .i64 0, .int .i64 0, .slice none 0 0, .int .i64 0] 48)) = w9.alloc (.cells Z28 48) := rfl
              go_step
              go_step
              go_step
              go_step
              go_step
              go_step
              go_step
              go_step
              go_step
              go_step
              go_step
              go_step
              go_step
              clear ez
              have b10 := alloc_new w9 (.cells Z28 48)
              obtain ⟨ga1, ga2, ga3, ga4, ga5, ga6, ya, yc, ga7, ga8⟩ := ga
              refine wpList_store_row rfl 48 (.tmp 15) (.tmp 142) rfl w9.heap.size A rfl rfl _ Z28 b10 (by rw [ga1]; exact Try.info48) (by rw [ga1]; rfl) ga2 ?_
              simp only [Act.put]
              have h11 := setRow_heap _ w9.heap.size Z28 A 48 (0, 0) b10
              have k11 : Kept No w9 ((w9.alloc (.cells Z28 48)).setRow w9.heap.size A) := ((Kept.refl No w9).alloc _).setRow (.inr (Nat.le_refl _)) _
              have H11 : Hid (Tn w ((w9.alloc (.cells Z28 48)).setRow w9.heap.size A) b g cap (tZ 2 u (.slice xa 1 xc) r)) := (H8.out.keep k9).keep k11
              have c0 : ((w9.alloc (.cells Z28 48)).setRow w9.heap.size A).cell? ⟨w9.heap.size, 0, none⟩ = some (.int .i64 1) := (cell_of_row _ _ 0 _ _ _ h11).trans ga3
              have c3 : ((w9.alloc (.cells Z28 48)).setRow w9.heap.size A).cell? ⟨w9.heap.size, 3, none⟩ = some (.int .i64 (r)) := (cell_of_row _ _ 3 _ _ _ h11).trans ga4
              have c4 : ((w9.alloc (.cells Z28 48)).setRow w9.heap.size A).cell? ⟨w9.heap.size, 4, none⟩ = some (.int .i64 9) := (cell_of_row _ _ 4 _ _ _ h11).trans ga5
              have c22 : ((w9.alloc (.cells Z28 48)).setRow w9.heap.size A).cell? ⟨w9.heap.size, 22, none⟩ = some (.int .i64 (-1)) := (cell_of_row _ _ 22 _ _ _ h11).trans ga6
              have c26 : ((w9.alloc (.cells Z28 48)).setRow w9.heap.size A).cell? ⟨w9.heap.size, 26, none⟩ = some (.slice ya 0 yc) := (cell_of_row _ _ 26 _ _ _ h11).trans ga7
              clear k9 b10 ga1 ga2 ga3 ga4 ga5 ga6 ga7 h11 k11
              generalize ((w9.alloc (.cells Z28 48)).setRow w9.heap.size A) = w11 at *
              have nz := ZN.out _ _ H11.out
              go_wp2_with (first
                | (go_at_call 13; refine nz.mono ?_; rintro e w12 ⟨rfl, k12⟩; have H12 : Hid (Tn w w12 b g cap (tZ 2 u (.slice xa 1 xc) r)) := H11.out.keep k12; have wz := ZW.out _ _ H12.out; clear k12 nz)
                | (go_at_call 14; refine wz.mono ?_; rintro e w13 ⟨rfl, e13⟩; subst e13; clear wz))
              go_ret
              refine ⟨?_, H12.out.2.1.below0⟩
              simp
            | false =>
              go_upto_region 6 with fail
              go_upto_region 10 with (go_at_call 11; refine wy.mono ?_; rintro e w5 ⟨rfl, xa, xc, t5, _, k5⟩; have H5 : Hid (Tn w w5 b g cap (tV 2 u (.slice xa 1 xc))) := H4.out.step t5 k5; clear t5 k5 wy)
              clear H3 H4 HB
              have CV : Hid (∀ W, Tn w W b g cap (tV 2 u (.slice xa 1 xc)) → (∀ x, Calls Try.prog 12 #[.pointer (some ⟨b, 0, none⟩), .int .i64 1, .int .i64 3, .int .i64 x] W fun e w' => e = .returned (.bool (x != -1 && u == x)) ∧ Kept No W w') ∧ (Calls Try.prog 12 #[.pointer (some ⟨b, 0, none⟩), .int .i64 1, .int .i64 1, .int .i64 u] W fun e w' => e = .returned (.bool false) ∧ Kept No W w') ∧ (Calls Try.prog 12 #[.pointer (some ⟨b, 0, none⟩), .int .i64 1, .int .i64 2, .int .i64 u] W fun e w' => e = .returned (.bool false) ∧ Kept No W w') ∧ (∀ x, Calls Try.prog 13 #[.pointer (some ⟨b, 0, none⟩), .int .i64 x] W fun e w' => e = .returned (.int .i64 (nstep x (-1) u)) ∧ Kept No W w') ∧ (Calls Try.prog 14 #[.pointer (some ⟨b, 0, none⟩), .int .i64 1, .int .i64 r] W fun e w' => e = .returned (.bool true) ∧ Tw w' b g cap (tZ 2 u (.slice xa 1 xc) r) ∧ Kept (Bg b g) W w') ∧ (u ≠ -1 → Calls Try.prog 15 #[.pointer (some ⟨b, 0, none⟩), .int .i64 1, .int .i64 3, .int .i64 u] W fun e w' => e = .returned (.bool true) ∧ Tw w' b g cap (tZ 2 u (.slice xa 1 xc) (if 2 = 2 then 0 else 4)) ∧ Kept (Bg b g) W w') ∧ (∀ x, (x != -1 && u == x) = false → Calls Try.prog 15 #[.pointer (some ⟨b, 0, none⟩), .int .i64 1, .int .i64 3, .int .i64 x] W fun e w' => e = .returned (.bool false) ∧ Kept No W w')) := fun W t => by
                obtain ⟨v1, v2, v3, v4, v5, v6, v7, v8⟩ := tV_all 2 u (.slice xa 1 xc)
                have hn1 : (0 : Nat) < (tV 2 u (.slice xa 1 xc)).n := by rw [v1]; omega
                have hn2 : (tV 2 u (.slice xa 1 xc)).n ≤ 1048576 := by rw [v1]; omega
                have d3 : ∀ x, Calls Try.prog 12 #[.pointer (some ⟨b, 0, none⟩), .int .i64 1, .int .i64 3, .int .i64 x] W fun e w' => e = .returned (.bool (x != -1 && u == x)) ∧ Kept No W w' := fun x => by
                  have := due_any W t.1 hn1 hn2 3 x
                  rw [tV_due3 hs] at this
                  exact this
                refine ⟨d3, ?_, ?_, ?_, ?_, ?_, ?_⟩
                · have := due_any W t.1 hn1 hn2 1 u
                  rw [tV_due1 hs] at this
                  exact this
                · have := due_any W t.1 hn1 hn2 2 u
                  rw [tV_due2 hs] at this
                  exact this
                · intro x
                  have := next_tw W t.1 hn2 x
                  rw [v1, tV_next hs] at this
                  exact this
                · exact wake_yes (i := 0) W t.1 hn1 hn2 (by rw [v2]; exact ⟨by decide, by decide⟩) (tV_wk hs) r
                · intro hu
                  have := fire_yes (i := 0) W t.1 hn1 hn2 (by rw [v2]; exact ⟨by decide, by decide⟩) (by rw [v7]; exact ⟨by decide, by decide⟩) 3 u (by rw [tV_due3 hs]; first | exact absurd rfl hu | simp [hu])
                  rw [tV_fire] at this
                  exact this
                · intro x hx
                  have := d3 x
                  rw [hx] at this
                  exact fire_not W this
              have ZN : Hid (∀ W R, Tn w W b g cap (tZ 2 u (.slice xa 1 xc) R) → Calls Try.prog 13 #[.pointer (some ⟨b, 0, none⟩), .int .i64 (-1)] W fun e w' => e = .returned (.int .i64 (-1)) ∧ Kept No W w') := fun W R t => by
                have := next_tw W t.1 (by rw [(tZ_all 2 u (.slice xa 1 xc) R).1]; omega) (-1)
                rw [(tZ_all 2 u (.slice xa 1 xc) R).1, tZ_next] at this
                exact this
              have ZW : Hid (∀ W R, Tn w W b g cap (tZ 2 u (.slice xa 1 xc) R) → Calls Try.prog 14 #[.pointer (some ⟨b, 0, none⟩), .int .i64 1, .int .i64 3] W fun e w' => e = .returned (.bool false) ∧ w' = W) := fun W R t => wake_not (i := 0) W t.1 (by rw [(tZ_all 2 u (.slice xa 1 xc) R).1]; omega) (by rw [(tZ_all 2 u (.slice xa 1 xc) R).1]; omega) (tZ_all 2 u (.slice xa 1 xc) R).2.2.2.2.2.2 3
              have d3 := (CV.out _ H5.out).1 u
              have HD3 : (u != -1 && u == u) = true := by simp [u1]
              rw [HD3] at d3
              clear HD3
              go_upto_region 12 with (first
                | (go_at_call 12; refine d3.mono ?_; rintro e w6 ⟨rfl, k6⟩; have H6 : Hid (Tn w w6 b g cap (tV 2 u (.slice xa 1 xc))) := H5.out.keep k6; have d1 := (CV.out _ H6.out).2.1; clear k6 d3)
                | (go_at_call 12; refine d1.mono ?_; rintro e w6 ⟨rfl, k6⟩; have H6b : Hid (Tn w w6 b g cap (tV 2 u (.slice xa 1 xc))) := H6.out.keep k6; have d2 := (CV.out _ H6b.out).2.2.1; clear k6 d1)
                | (go_at_call 12; refine d2.mono ?_; rintro e w7 ⟨rfl, k7⟩; have H7 : Hid (Tn w w7 b g cap (tV 2 u (.slice xa 1 xc))) := H6b.out.keep k7; clear k7 d2))
              clear H5 H6 H6b
              have n1 := (CV.out _ H7.out).2.2.2.1 u
              have n2 := fun W (t : Tn w W b g cap (tV 2 u (.slice xa 1 xc))) => (CV.out W t).2.2.2.1 (u - 1)
              have en1 : nstep u (-1) u = -1 := by unfold nstep; rw [if_neg (fun h => by omega)]
              have en2 : nstep (u - 1) (-1) u = u := by unfold nstep; rw [if_pos ⟨u1, by omega, .inl rfl⟩]
              rw [en1] at n1
              rw [en2] at n2
              have HN2 : Hid (∀ W, Tn w W b g cap (tV 2 u (.slice xa 1 xc)) → Calls Try.prog 13 #[.pointer (some ⟨b, 0, none⟩), .int .i64 (u - 1)] W fun e w' => e = .returned (.int .i64 u) ∧ Kept No W w') := n2
              clear en1 en2 n2
              have uu : (u != u) = false := by simp
              have mm : ((-1 : Int) != -1) = false := rfl
              go_upto_region 14 with (first
                | (go_at_call 13; refine n1.mono ?_; rintro e w8 ⟨rfl, k8⟩; have H7b : Hid (Tn w w8 b g cap (tV 2 u (.slice xa 1 xc))) := H7.out.keep k8; have n2 := HN2.out _ H7b.out; clear k8 n1)
                | (go_at_call 13; refine n2.mono ?_; rintro e w8 ⟨rfl, k8⟩; have H7c : Hid (Tn w w8 b g cap (tV 2 u (.slice xa 1 xc))) := H7b.out.keep k8; clear k8 n2))
              clear H7 H7b HN2
              have f0 := (CV.out _ H7c.out).2.2.2.2.2.2 (u + 1) (by simp; intro _; omega)
              go_upto_region 23 with (first
                | (go_at_call 15; refine f0.mono ?_; rintro e w8 ⟨rfl, k8⟩; have H7d : Hid (Tn w w8 b g cap (tV 2 u (.slice xa 1 xc))) := H7c.out.keep k8; have f1 := (CV.out _ H7d.out).2.2.2.2.2.1 u1; (try rw [if_pos (rfl : (2 : Int) = 2)] at f1); clear k8 f0)
                | (go_at_call 15; refine f1.mono ?_; rintro e w8 ⟨rfl, t8, k8⟩; have H8 : Hid (Tn w w8 b g cap (tZ 2 u (.slice xa 1 xc) 0)) := H7d.out.step t8 k8; clear t8 k8 f1))
              clear H7c H7d CV
              have gz := get_z _ H8.out.1
              refine wp_region_lit ?_
              go_step
              go_step
              go_step
              go_step
              go_step
              refine gz.mono ?_
              rintro e9 w9 ⟨A, rfl, ga, k9⟩
              clear gz
              dsimp only
              have ez : (w9.alloc (.cells #[.int .i64 0, .int .i64 0, .int .i64 0, .int .i64 0, .int .i64 0, .int .i64 0, .int .i64 0, .int .i64 0, .int .i64 0, .int .i64 0, .int .i64 0, .int .i64 0, .int .i64 0, .int .i64 0, .int .i64 0, .int .i64 0, .int .i64 0, .int .i64 0, .int .i64 0, .int .i64 0, .int .i64 0, .int .i64 0, .int .i64 0, .bool false, .int .i64 0, .int .i64 0, .slice none 0 0, .int .i64 0] 48)) = w9.alloc (.cells Z28 48) := rfl
              go_step
              go_step
              go_step
              go_step
              go_step
              go_step
              go_step
              go_step
              go_step
              go_step
              go_step
              go_step
              go_step
              clear ez
              have b10 := alloc_new w9 (.cells Z28 48)
              obtain ⟨ga1, ga2, ga3, ga4, ga5, ga6, ya, yc, ga7, ga8⟩ := ga
              refine wpList_store_row rfl 48 (.tmp 15) (.tmp 142) rfl w9.heap.size A rfl rfl _ Z28 b10 (by rw [ga1]; exact Try.info48) (by rw [ga1]; rfl) ga2 ?_
              simp only [Act.put]
              have h11 := setRow_heap _ w9.heap.size Z28 A 48 (0, 0) b10
              have k11 : Kept No w9 ((w9.alloc (.cells Z28 48)).setRow w9.heap.size A) := ((Kept.refl No w9).alloc _).setRow (.inr (Nat.le_refl _)) _
              have H11 : Hid (Tn w ((w9.alloc (.cells Z28 48)).setRow w9.heap.size A) b g cap (tZ 2 u (.slice xa 1 xc) 0)) := (H8.out.keep k9).keep k11
              have c0 : ((w9.alloc (.cells Z28 48)).setRow w9.heap.size A).cell? ⟨w9.heap.size, 0, none⟩ = some (.int .i64 1) := (cell_of_row _ _ 0 _ _ _ h11).trans ga3
              have c3 : ((w9.alloc (.cells Z28 48)).setRow w9.heap.size A).cell? ⟨w9.heap.size, 3, none⟩ = some (.int .i64 (0)) := (cell_of_row _ _ 3 _ _ _ h11).trans ga4
              have c4 : ((w9.alloc (.cells Z28 48)).setRow w9.heap.size A).cell? ⟨w9.heap.size, 4, none⟩ = some (.int .i64 9) := (cell_of_row _ _ 4 _ _ _ h11).trans ga5
              have c22 : ((w9.alloc (.cells Z28 48)).setRow w9.heap.size A).cell? ⟨w9.heap.size, 22, none⟩ = some (.int .i64 (-1)) := (cell_of_row _ _ 22 _ _ _ h11).trans ga6
              have c26 : ((w9.alloc (.cells Z28 48)).setRow w9.heap.size A).cell? ⟨w9.heap.size, 26, none⟩ = some (.slice ya 0 yc) := (cell_of_row _ _ 26 _ _ _ h11).trans ga7
              clear k9 b10 ga1 ga2 ga3 ga4 ga5 ga6 ga7 h11 k11
              generalize ((w9.alloc (.cells Z28 48)).setRow w9.heap.size A) = w11 at *
              have nz := ZN.out _ _ H11.out
              go_wp2_with (first
                | (go_at_call 13; refine nz.mono ?_; rintro e w12 ⟨rfl, k12⟩; have H12 : Hid (Tn w w12 b g cap (tZ 2 u (.slice xa 1 xc) 0)) := H11.out.keep k12; have wz := ZW.out _ _ H12.out; clear k12 nz)
                | (go_at_call 14; refine wz.mono ?_; rintro e w13 ⟨rfl, e13⟩; subst e13; clear wz))
              go_ret
              refine ⟨?_, H12.out.2.1.below0⟩
              simp
          · have un' : (u == now) = false := by simp [un]
            cases wk with
            | true =>
              go_upto_region 6 with fail
              go_upto_region 10 with (go_at_call 11; refine wy.mono ?_; rintro e w5 ⟨rfl, xa, xc, t5, _, k5⟩; have H5 : Hid (Tn w w5 b g cap (tV 2 u (.slice xa 1 xc))) := H4.out.step t5 k5; clear t5 k5 wy)
              clear H3 H4 HB
              have CV : Hid (∀ W, Tn w W b g cap (tV 2 u (.slice xa 1 xc)) → (∀ x, Calls Try.prog 12 #[.pointer (some ⟨b, 0, none⟩), .int .i64 1, .int .i64 3, .int .i64 x] W fun e w' => e = .returned (.bool (x != -1 && u == x)) ∧ Kept No W w') ∧ (Calls Try.prog 12 #[.pointer (some ⟨b, 0, none⟩), .int .i64 1, .int .i64 1, .int .i64 now] W fun e w' => e = .returned (.bool false) ∧ Kept No W w') ∧ (Calls Try.prog 12 #[.pointer (some ⟨b, 0, none⟩), .int .i64 1, .int .i64 2, .int .i64 now] W fun e w' => e = .returned (.bool false) ∧ Kept No W w') ∧ (∀ x, Calls Try.prog 13 #[.pointer (some ⟨b, 0, none⟩), .int .i64 x] W fun e w' => e = .returned (.int .i64 (nstep x (-1) u)) ∧ Kept No W w') ∧ (Calls Try.prog 14 #[.pointer (some ⟨b, 0, none⟩), .int .i64 1, .int .i64 r] W fun e w' => e = .returned (.bool true) ∧ Tw w' b g cap (tZ 2 u (.slice xa 1 xc) r) ∧ Kept (Bg b g) W w') ∧ (u ≠ -1 → Calls Try.prog 15 #[.pointer (some ⟨b, 0, none⟩), .int .i64 1, .int .i64 3, .int .i64 u] W fun e w' => e = .returned (.bool true) ∧ Tw w' b g cap (tZ 2 u (.slice xa 1 xc) (if 2 = 2 then 0 else 4)) ∧ Kept (Bg b g) W w') ∧ (∀ x, (x != -1 && u == x) = false → Calls Try.prog 15 #[.pointer (some ⟨b, 0, none⟩), .int .i64 1, .int .i64 3, .int .i64 x] W fun e w' => e = .returned (.bool false) ∧ Kept No W w')) := fun W t => by
                obtain ⟨v1, v2, v3, v4, v5, v6, v7, v8⟩ := tV_all 2 u (.slice xa 1 xc)
                have hn1 : (0 : Nat) < (tV 2 u (.slice xa 1 xc)).n := by rw [v1]; omega
                have hn2 : (tV 2 u (.slice xa 1 xc)).n ≤ 1048576 := by rw [v1]; omega
                have d3 : ∀ x, Calls Try.prog 12 #[.pointer (some ⟨b, 0, none⟩), .int .i64 1, .int .i64 3, .int .i64 x] W fun e w' => e = .returned (.bool (x != -1 && u == x)) ∧ Kept No W w' := fun x => by
                  have := due_any W t.1 hn1 hn2 3 x
                  rw [tV_due3 hs] at this
                  exact this
                refine ⟨d3, ?_, ?_, ?_, ?_, ?_, ?_⟩
                · have := due_any W t.1 hn1 hn2 1 now
                  rw [tV_due1 hs] at this
                  exact this
                · have := due_any W t.1 hn1 hn2 2 now
                  rw [tV_due2 hs] at this
                  exact this
                · intro x
                  have := next_tw W t.1 hn2 x
                  rw [v1, tV_next hs] at this
                  exact this
                · exact wake_yes (i := 0) W t.1 hn1 hn2 (by rw [v2]; exact ⟨by decide, by decide⟩) (tV_wk hs) r
                · intro hu
                  have := fire_yes (i := 0) W t.1 hn1 hn2 (by rw [v2]; exact ⟨by decide, by decide⟩) (by rw [v7]; exact ⟨by decide, by decide⟩) 3 u (by rw [tV_due3 hs]; first | exact absurd rfl hu | simp [hu])
                  rw [tV_fire] at this
                  exact this
                · intro x hx
                  have := d3 x
                  rw [hx] at this
                  exact fire_not W this
              have ZN : Hid (∀ W R, Tn w W b g cap (tZ 2 u (.slice xa 1 xc) R) → Calls Try.prog 13 #[.pointer (some ⟨b, 0, none⟩), .int .i64 (-1)] W fun e w' => e = .returned (.int .i64 (-1)) ∧ Kept No W w') := fun W R t => by
                have := next_tw W t.1 (by rw [(tZ_all 2 u (.slice xa 1 xc) R).1]; omega) (-1)
                rw [(tZ_all 2 u (.slice xa 1 xc) R).1, tZ_next] at this
                exact this
              have ZW : Hid (∀ W R, Tn w W b g cap (tZ 2 u (.slice xa 1 xc) R) → Calls Try.prog 14 #[.pointer (some ⟨b, 0, none⟩), .int .i64 1, .int .i64 3] W fun e w' => e = .returned (.bool false) ∧ w' = W) := fun W R t => wake_not (i := 0) W t.1 (by rw [(tZ_all 2 u (.slice xa 1 xc) R).1]; omega) (by rw [(tZ_all 2 u (.slice xa 1 xc) R).1]; omega) (tZ_all 2 u (.slice xa 1 xc) R).2.2.2.2.2.2 3
              have d3 := (CV.out _ H5.out).1 now
              have HD3 : (now != -1 && u == now) = false := by simp; intro _; exact un
              rw [HD3] at d3
              clear HD3
              go_upto_region 12 with (first
                | (go_at_call 12; refine d3.mono ?_; rintro e w6 ⟨rfl, k6⟩; have H6 : Hid (Tn w w6 b g cap (tV 2 u (.slice xa 1 xc))) := H5.out.keep k6; have d1 := (CV.out _ H6.out).2.1; clear k6 d3)
                | (go_at_call 12; refine d1.mono ?_; rintro e w6 ⟨rfl, k6⟩; have H6b : Hid (Tn w w6 b g cap (tV 2 u (.slice xa 1 xc))) := H6.out.keep k6; have d2 := (CV.out _ H6b.out).2.2.1; clear k6 d1)
                | (go_at_call 12; refine d2.mono ?_; rintro e w7 ⟨rfl, k7⟩; have H7 : Hid (Tn w w7 b g cap (tV 2 u (.slice xa 1 xc))) := H6b.out.keep k7; clear k7 d2))
              clear H5 H6 H6b
              have n1 := (CV.out _ H7.out).2.2.2.1 u
              have n2 := fun W (t : Tn w W b g cap (tV 2 u (.slice xa 1 xc))) => (CV.out W t).2.2.2.1 (u - 1)
              have en1 : nstep u (-1) u = -1 := by unfold nstep; rw [if_neg (fun h => by omega)]
              have en2 : nstep (u - 1) (-1) u = u := by unfold nstep; rw [if_pos ⟨u1, by omega, .inl rfl⟩]
              rw [en1] at n1
              rw [en2] at n2
              have HN2 : Hid (∀ W, Tn w W b g cap (tV 2 u (.slice xa 1 xc)) → Calls Try.prog 13 #[.pointer (some ⟨b, 0, none⟩), .int .i64 (u - 1)] W fun e w' => e = .returned (.int .i64 u) ∧ Kept No W w') := n2
              clear en1 en2 n2
              have uu : (u != u) = false := by simp
              have mm : ((-1 : Int) != -1) = false := rfl
              go_upto_region 14 with (first
                | (go_at_call 13; refine n1.mono ?_; rintro e w8 ⟨rfl, k8⟩; have H7b : Hid (Tn w w8 b g cap (tV 2 u (.slice xa 1 xc))) := H7.out.keep k8; have n2 := HN2.out _ H7b.out; clear k8 n1)
                | (go_at_call 13; refine n2.mono ?_; rintro e w8 ⟨rfl, k8⟩; have H7c : Hid (Tn w w8 b g cap (tV 2 u (.slice xa 1 xc))) := H7b.out.keep k8; clear k8 n2))
              clear H7 H7b HN2
              have wa := (CV.out _ H7c.out).2.2.2.2.1
              go_upto_region 23 with (go_at_call 14; refine wa.mono ?_; rintro e w8 ⟨rfl, t8, k8⟩; have H8 : Hid (Tn w w8 b g cap (tZ 2 u (.slice xa 1 xc) r)) := H7c.out.step t8 k8; clear t8 k8 wa)
              clear H7c CV
              have gz := get_z _ H8.out.1
              refine wp_region_lit ?_
              go_step
              go_step
              go_step
              go_step
              go_step
              refine gz.mono ?_
              rintro e9 w9 ⟨A, rfl, ga, k9⟩
              clear gz
              dsimp only
              have ez : (w9.alloc (.cells #[.int .i64 0, .int .i64 0, .int .i64 0, .int .i64 0, .int .i64 0, .int .i64 0, .int .i64 0, .int .i64 0, .int .i64 0, .int .i64 0, .int .i64 0, .int .i64 0, .int .i64 0, .int .i64 0, .int .i64 0, .int .i64 0, .int .i64 0, .int .i64 0, .int .i64 0, .int .i64 0, .int .i64 0, .int .i64 0, .int .i64 0, .bool false, .int .i64 0, .int .i64 0, .slice none 0 0, .int .i64 0] 48)) = w9.alloc (.cells Z28 48) := rfl
              go_step
              go_step
              go_step
              go_step
              go_step
              go_step
              go_step
              go_step
              go_step
              go_step
              go_step
              go_step
              go_step
              clear ez
              have b10 := alloc_new w9 (.cells Z28 48)
              obtain ⟨ga1, ga2, ga3, ga4, ga5, ga6, ya, yc, ga7, ga8⟩ := ga
              refine wpList_store_row rfl 48 (.tmp 15) (.tmp 142) rfl w9.heap.size A rfl rfl _ Z28 b10 (by rw [ga1]; exact Try.info48) (by rw [ga1]; rfl) ga2 ?_
              simp only [Act.put]
              have h11 := setRow_heap _ w9.heap.size Z28 A 48 (0, 0) b10
              have k11 : Kept No w9 ((w9.alloc (.cells Z28 48)).setRow w9.heap.size A) := ((Kept.refl No w9).alloc _).setRow (.inr (Nat.le_refl _)) _
              have H11 : Hid (Tn w ((w9.alloc (.cells Z28 48)).setRow w9.heap.size A) b g cap (tZ 2 u (.slice xa 1 xc) r)) := (H8.out.keep k9).keep k11
              have c0 : ((w9.alloc (.cells Z28 48)).setRow w9.heap.size A).cell? ⟨w9.heap.size, 0, none⟩ = some (.int .i64 1) := (cell_of_row _ _ 0 _ _ _ h11).trans ga3
              have c3 : ((w9.alloc (.cells Z28 48)).setRow w9.heap.size A).cell? ⟨w9.heap.size, 3, none⟩ = some (.int .i64 (r)) := (cell_of_row _ _ 3 _ _ _ h11).trans ga4
              have c4 : ((w9.alloc (.cells Z28 48)).setRow w9.heap.size A).cell? ⟨w9.heap.size, 4, none⟩ = some (.int .i64 9) := (cell_of_row _ _ 4 _ _ _ h11).trans ga5
              have c22 : ((w9.alloc (.cells Z28 48)).setRow w9.heap.size A).cell? ⟨w9.heap.size, 22, none⟩ = some (.int .i64 (-1)) := (cell_of_row _ _ 22 _ _ _ h11).trans ga6
              have c26 : ((w9.alloc (.cells Z28 48)).setRow w9.heap.size A).cell? ⟨w9.heap.size, 26, none⟩ = some (.slice ya 0 yc) := (cell_of_row _ _ 26 _ _ _ h11).trans ga7
              clear k9 b10 ga1 ga2 ga3 ga4 ga5 ga6 ga7 h11 k11
              generalize ((w9.alloc (.cells Z28 48)).setRow w9.heap.size A) = w11 at *
              have nz := ZN.out _ _ H11.out
              go_wp2_with (first
                | (go_at_call 13; refine nz.mono ?_; rintro e w12 ⟨rfl, k12⟩; have H12 : Hid (Tn w w12 b g cap (tZ 2 u (.slice xa 1 xc) r)) := H11.out.keep k12; have wz := ZW.out _ _ H12.out; clear k12 nz)
                | (go_at_call 14; refine wz.mono ?_; rintro e w13 ⟨rfl, e13⟩; subst e13; clear wz))
              go_ret
              refine ⟨?_, H12.out.2.1.below0⟩
              simp
            | false =>
              go_upto_region 6 with fail
              go_upto_region 10 with (go_at_call 11; refine wy.mono ?_; rintro e w5 ⟨rfl, xa, xc, t5, _, k5⟩; have H5 : Hid (Tn w w5 b g cap (tV 2 u (.slice xa 1 xc))) := H4.out.step t5 k5; clear t5 k5 wy)
              clear H3 H4 HB
              have CV : Hid (∀ W, Tn w W b g cap (tV 2 u (.slice xa 1 xc)) → (∀ x, Calls Try.prog 12 #[.pointer (some ⟨b, 0, none⟩), .int .i64 1, .int .i64 3, .int .i64 x] W fun e w' => e = .returned (.bool (x != -1 && u == x)) ∧ Kept No W w') ∧ (Calls Try.prog 12 #[.pointer (some ⟨b, 0, none⟩), .int .i64 1, .int .i64 1, .int .i64 now] W fun e w' => e = .returned (.bool false) ∧ Kept No W w') ∧ (Calls Try.prog 12 #[.pointer (some ⟨b, 0, none⟩), .int .i64 1, .int .i64 2, .int .i64 now] W fun e w' => e = .returned (.bool false) ∧ Kept No W w') ∧ (∀ x, Calls Try.prog 13 #[.pointer (some ⟨b, 0, none⟩), .int .i64 x] W fun e w' => e = .returned (.int .i64 (nstep x (-1) u)) ∧ Kept No W w') ∧ (Calls Try.prog 14 #[.pointer (some ⟨b, 0, none⟩), .int .i64 1, .int .i64 r] W fun e w' => e = .returned (.bool true) ∧ Tw w' b g cap (tZ 2 u (.slice xa 1 xc) r) ∧ Kept (Bg b g) W w') ∧ (u ≠ -1 → Calls Try.prog 15 #[.pointer (some ⟨b, 0, none⟩), .int .i64 1, .int .i64 3, .int .i64 u] W fun e w' => e = .returned (.bool true) ∧ Tw w' b g cap (tZ 2 u (.slice xa 1 xc) (if 2 = 2 then 0 else 4)) ∧ Kept (Bg b g) W w') ∧ (∀ x, (x != -1 && u == x) = false → Calls Try.prog 15 #[.pointer (some ⟨b, 0, none⟩), .int .i64 1, .int .i64 3, .int .i64 x] W fun e w' => e = .returned (.bool false) ∧ Kept No W w')) := fun W t => by
                obtain ⟨v1, v2, v3, v4, v5, v6, v7, v8⟩ := tV_all 2 u (.slice xa 1 xc)
                have hn1 : (0 : Nat) < (tV 2 u (.slice xa 1 xc)).n := by rw [v1]; omega
                have hn2 : (tV 2 u (.slice xa 1 xc)).n ≤ 1048576 := by rw [v1]; omega
                have d3 : ∀ x, Calls Try.prog 12 #[.pointer (some ⟨b, 0, none⟩), .int .i64 1, .int .i64 3, .int .i64 x] W fun e w' => e = .returned (.bool (x != -1 && u == x)) ∧ Kept No W w' := fun x => by
                  have := due_any W t.1 hn1 hn2 3 x
                  rw [tV_due3 hs] at this
                  exact this
                refine ⟨d3, ?_, ?_, ?_, ?_, ?_, ?_⟩
                · have := due_any W t.1 hn1 hn2 1 now
                  rw [tV_due1 hs] at this
                  exact this
                · have := due_any W t.1 hn1 hn2 2 now
                  rw [tV_due2 hs] at this
                  exact this
                · intro x
                  have := next_tw W t.1 hn2 x
                  rw [v1, tV_next hs] at this
                  exact this
                · exact wake_yes (i := 0) W t.1 hn1 hn2 (by rw [v2]; exact ⟨by decide, by decide⟩) (tV_wk hs) r
                · intro hu
                  have := fire_yes (i := 0) W t.1 hn1 hn2 (by rw [v2]; exact ⟨by decide, by decide⟩) (by rw [v7]; exact ⟨by decide, by decide⟩) 3 u (by rw [tV_due3 hs]; first | exact absurd rfl hu | simp [hu])
                  rw [tV_fire] at this
                  exact this
                · intro x hx
                  have := d3 x
                  rw [hx] at this
                  exact fire_not W this
              have ZN : Hid (∀ W R, Tn w W b g cap (tZ 2 u (.slice xa 1 xc) R) → Calls Try.prog 13 #[.pointer (some ⟨b, 0, none⟩), .int .i64 (-1)] W fun e w' => e = .returned (.int .i64 (-1)) ∧ Kept No W w') := fun W R t => by
                have := next_tw W t.1 (by rw [(tZ_all 2 u (.slice xa 1 xc) R).1]; omega) (-1)
                rw [(tZ_all 2 u (.slice xa 1 xc) R).1, tZ_next] at this
                exact this
              have ZW : Hid (∀ W R, Tn w W b g cap (tZ 2 u (.slice xa 1 xc) R) → Calls Try.prog 14 #[.pointer (some ⟨b, 0, none⟩), .int .i64 1, .int .i64 3] W fun e w' => e = .returned (.bool false) ∧ w' = W) := fun W R t => wake_not (i := 0) W t.1 (by rw [(tZ_all 2 u (.slice xa 1 xc) R).1]; omega) (by rw [(tZ_all 2 u (.slice xa 1 xc) R).1]; omega) (tZ_all 2 u (.slice xa 1 xc) R).2.2.2.2.2.2 3
              have d3 := (CV.out _ H5.out).1 now
              have HD3 : (now != -1 && u == now) = false := by simp; intro _; exact un
              rw [HD3] at d3
              clear HD3
              go_upto_region 12 with (first
                | (go_at_call 12; refine d3.mono ?_; rintro e w6 ⟨rfl, k6⟩; have H6 : Hid (Tn w w6 b g cap (tV 2 u (.slice xa 1 xc))) := H5.out.keep k6; have d1 := (CV.out _ H6.out).2.1; clear k6 d3)
                | (go_at_call 12; refine d1.mono ?_; rintro e w6 ⟨rfl, k6⟩; have H6b : Hid (Tn w w6 b g cap (tV 2 u (.slice xa 1 xc))) := H6.out.keep k6; have d2 := (CV.out _ H6b.out).2.2.1; clear k6 d1)
                | (go_at_call 12; refine d2.mono ?_; rintro e w7 ⟨rfl, k7⟩; have H7 : Hid (Tn w w7 b g cap (tV 2 u (.slice xa 1 xc))) := H6b.out.keep k7; clear k7 d2))
              clear H5 H6 H6b
              have n1 := (CV.out _ H7.out).2.2.2.1 u
              have n2 := fun W (t : Tn w W b g cap (tV 2 u (.slice xa 1 xc))) => (CV.out W t).2.2.2.1 (u - 1)
              have en1 : nstep u (-1) u = -1 := by unfold nstep; rw [if_neg (fun h => by omega)]
              have en2 : nstep (u - 1) (-1) u = u := by unfold nstep; rw [if_pos ⟨u1, by omega, .inl rfl⟩]
              rw [en1] at n1
              rw [en2] at n2
              have HN2 : Hid (∀ W, Tn w W b g cap (tV 2 u (.slice xa 1 xc)) → Calls Try.prog 13 #[.pointer (some ⟨b, 0, none⟩), .int .i64 (u - 1)] W fun e w' => e = .returned (.int .i64 u) ∧ Kept No W w') := n2
              clear en1 en2 n2
              have uu : (u != u) = false := by simp
              have mm : ((-1 : Int) != -1) = false := rfl
              go_upto_region 14 with (first
                | (go_at_call 13; refine n1.mono ?_; rintro e w8 ⟨rfl, k8⟩; have H7b : Hid (Tn w w8 b g cap (tV 2 u (.slice xa 1 xc))) := H7.out.keep k8; have n2 := HN2.out _ H7b.out; clear k8 n1)
                | (go_at_call 13; refine n2.mono ?_; rintro e w8 ⟨rfl, k8⟩; have H7c : Hid (Tn w w8 b g cap (tV 2 u (.slice xa 1 xc))) := H7b.out.keep k8; clear k8 n2))
              clear H7 H7b HN2
              have f0 := (CV.out _ H7c.out).2.2.2.2.2.2 (u + 1) (by simp; intro _; omega)
              go_upto_region 23 with (first
                | (go_at_call 15; refine f0.mono ?_; rintro e w8 ⟨rfl, k8⟩; have H7d : Hid (Tn w w8 b g cap (tV 2 u (.slice xa 1 xc))) := H7c.out.keep k8; have f1 := (CV.out _ H7d.out).2.2.2.2.2.1 u1; (try rw [if_pos (rfl : (2 : Int) = 2)] at f1); clear k8 f0)
                | (go_at_call 15; refine f1.mono ?_; rintro e w8 ⟨rfl, t8, k8⟩; have H8 : Hid (Tn w w8 b g cap (tZ 2 u (.slice xa 1 xc) 0)) := H7d.out.step t8 k8; clear t8 k8 f1))
              clear H7c H7d CV
              have gz := get_z _ H8.out.1
              refine wp_region_lit ?_
              go_step
              go_step
              go_step
              go_step
              go_step
              refine gz.mono ?_
              rintro e9 w9 ⟨A, rfl, ga, k9⟩
              clear gz
              dsimp only
              have ez : (w9.alloc (.cells #[.int .i64 0, .int .i64 0, .int .i64 0, .int .i64 0, .int .i64 0, .int .i64 0, .int .i64 0, .int .i64 0, .int .i64 0, .int .i64 0, .int .i64 0, .int .i64 0, .int .i64 0, .int .i64 0, .int .i64 0, .int .i64 0, .int .i64 0, .int .i64 0, .int .i64 0, .int .i64 0, .int .i64 0, .int .i64 0, .int .i64 0, .bool false, .int .i64 0, .int .i64 0, .slice none 0 0, .int .i64 0] 48)) = w9.alloc (.cells Z28 48) := rfl
              go_step
              go_step
              go_step
              go_step
              go_step
              go_step
              go_step
              go_step
              go_step
              go_step
              go_step
              go_step
              go_step
              clear ez
              have b10 := alloc_new w9 (.cells Z28 48)
              obtain ⟨ga1, ga2, ga3, ga4, ga5, ga6, ya, yc, ga7, ga8⟩ := ga
              refine wpList_store_row rfl 48 (.tmp 15) (.tmp 142) rfl w9.heap.size A rfl rfl _ Z28 b10 (by rw [ga1]; exact Try.info48) (by rw [ga1]; rfl) ga2 ?_
              simp only [Act.put]
              have h11 := setRow_heap _ w9.heap.size Z28 A 48 (0, 0) b10
              have k11 : Kept No w9 ((w9.alloc (.cells Z28 48)).setRow w9.heap.size A) := ((Kept.refl No w9).alloc _).setRow (.inr (Nat.le_refl _)) _
              have H11 : Hid (Tn w ((w9.alloc (.cells Z28 48)).setRow w9.heap.size A) b g cap (tZ 2 u (.slice xa 1 xc) 0)) := (H8.out.keep k9).keep k11
              have c0 : ((w9.alloc (.cells Z28 48)).setRow w9.heap.size A).cell? ⟨w9.heap.size, 0, none⟩ = some (.int .i64 1) := (cell_of_row _ _ 0 _ _ _ h11).trans ga3
              have c3 : ((w9.alloc (.cells Z28 48)).setRow w9.heap.size A).cell? ⟨w9.heap.size, 3, none⟩ = some (.int .i64 (0)) := (cell_of_row _ _ 3 _ _ _ h11).trans ga4
              have c4 : ((w9.alloc (.cells Z28 48)).setRow w9.heap.size A).cell? ⟨w9.heap.size, 4, none⟩ = some (.int .i64 9) := (cell_of_row _ _ 4 _ _ _ h11).trans ga5
              have c22 : ((w9.alloc (.cells Z28 48)).setRow w9.heap.size A).cell? ⟨w9.heap.size, 22, none⟩ = some (.int .i64 (-1)) := (cell_of_row _ _ 22 _ _ _ h11).trans ga6
              have c26 : ((w9.alloc (.cells Z28 48)).setRow w9.heap.size A).cell? ⟨w9.heap.size, 26, none⟩ = some (.slice ya 0 yc) := (cell_of_row _ _ 26 _ _ _ h11).trans ga7
              clear k9 b10 ga1 ga2 ga3 ga4 ga5 ga6 ga7 h11 k11
              generalize ((w9.alloc (.cells Z28 48)).setRow w9.heap.size A) = w11 at *
              have nz := ZN.out _ _ H11.out
              go_wp2_with (first
                | (go_at_call 13; refine nz.mono ?_; rintro e w12 ⟨rfl, k12⟩; have H12 : Hid (Tn w w12 b g cap (tZ 2 u (.slice xa 1 xc) 0)) := H11.out.keep k12; have wz := ZW.out _ _ H12.out; clear k12 nz)
                | (go_at_call 14; refine wz.mono ?_; rintro e w13 ⟨rfl, e13⟩; subst e13; clear wz))
              go_ret
              refine ⟨?_, H12.out.2.1.below0⟩
              simp
        · have wb := WB.out (.inr ⟨u1, by simp [isT]; omega⟩)
          clear WB WY
          go_upto_region 6 with fail
          go_wp2_with (go_at_call 11; refine wb.mono ?_; rintro e w5 ⟨rfl, rfl⟩; clear wb)
          go_ret
          exact ⟨rfl, H4.out.2.1.below0⟩
      · have wb := WB.out (.inr ⟨u1, by simp [isT]; omega⟩)
        clear WB WY
        go_upto_region 6 with fail
        go_wp2_with (go_at_call 11; refine wb.mono ?_; rintro e w5 ⟨rfl, rfl⟩; clear wb)
        go_ret
        exact ⟨rfl, H4.out.2.1.below0⟩
  · have s2' : (s == 2) = false := by simp [s2]
    by_cases s4 : 4 ≤ s
    · by_cases s9 : s ≤ 9
      · have hs : fw s = true := by simp [fw]; omega
        by_cases u1 : u = -1
        · subst u1
          have wy := WY.out hs (.inl rfl)
          clear WB WY
          by_cases un : (-1) = now
          · subst un
            cases wk with
            | true =>
              go_upto_region 6 with fail
              go_upto_region 10 with (go_at_call 11; refine wy.mono ?_; rintro e w5 ⟨rfl, xa, xc, t5, _, k5⟩; have H5 : Hid (Tn w w5 b g cap (tV s (-1) (.slice xa 1 xc))) := H4.out.step t5 k5; clear t5 k5 wy)
              clear H3 H4 HB
              have CV : Hid (∀ W, Tn w W b g cap (tV s (-1) (.slice xa 1 xc)) → (∀ x, Calls Try.prog 12 #[.pointer (some ⟨b, 0, none⟩), .int .i64 1, .int .i64 3, .int .i64 x] W fun e w' => e = .returned (.bool (x != -1 && (-1) == x)) ∧ Kept No W w') ∧ (Calls Try.prog 12 #[.pointer (some ⟨b, 0, none⟩), .int .i64 1, .int .i64 1, .int .i64 (-1)] W fun e w' => e = .returned (.bool false) ∧ Kept No W w') ∧ (Calls Try.prog 12 #[.pointer (some ⟨b, 0, none⟩), .int .i64 1, .int .i64 2, .int .i64 (-1)] W fun e w' => e = .returned (.bool false) ∧ Kept No W w') ∧ (∀ x, Calls Try.prog 13 #[.pointer (some ⟨b, 0, none⟩), .int .i64 x] W fun e w' => e = .returned (.int .i64 (nstep x (-1) (-1))) ∧ Kept No W w') ∧ (Calls Try.prog 14 #[.pointer (some ⟨b, 0, none⟩), .int .i64 1, .int .i64 r] W fun e w' => e = .returned (.bool true) ∧ Tw w' b g cap (tZ s (-1) (.slice xa 1 xc) r) ∧ Kept (Bg b g) W w') ∧ ((-1) ≠ -1 → Calls Try.prog 15 #[.pointer (some ⟨b, 0, none⟩), .int .i64 1, .int .i64 3, .int .i64 (-1)] W fun e w' => e = .returned (.bool true) ∧ Tw w' b g cap (tZ s (-1) (.slice xa 1 xc) (if s = 2 then 0 else 4)) ∧ Kept (Bg b g) W w') ∧ (∀ x, (x != -1 && (-1) == x) = false → Calls Try.prog 15 #[.pointer (some ⟨b, 0, none⟩), .int .i64 1, .int .i64 3, .int .i64 x] W fun e w' => e = .returned (.bool false) ∧ Kept No W w')) := fun W t => by
                obtain ⟨v1, v2, v3, v4, v5, v6, v7, v8⟩ := tV_all s (-1) (.slice xa 1 xc)
                have hn1 : (0 : Nat) < (tV s (-1) (.slice xa 1 xc)).n := by rw [v1]; omega
                have hn2 : (tV s (-1) (.slice xa 1 xc)).n ≤ 1048576 := by rw [v1]; omega
                have d3 : ∀ x, Calls Try.prog 12 #[.pointer (some ⟨b, 0, none⟩), .int .i64 1, .int .i64 3, .int .i64 x] W fun e w' => e = .returned (.bool (x != -1 && (-1) == x)) ∧ Kept No W w' := fun x => by
                  have := due_any W t.1 hn1 hn2 3 x
                  rw [tV_due3 hs] at this
                  exact this
                refine ⟨d3, ?_, ?_, ?_, ?_, ?_, ?_⟩
                · have := due_any W t.1 hn1 hn2 1 (-1)
                  rw [tV_due1 hs] at this
                  exact this
                · have := due_any W t.1 hn1 hn2 2 (-1)
                  rw [tV_due2 hs] at this
                  exact this
                · intro x
                  have := next_tw W t.1 hn2 x
                  rw [v1, tV_next hs] at this
                  exact this
                · exact wake_yes (i := 0) W t.1 hn1 hn2 (by rw [v2]; exact ⟨by decide, by decide⟩) (tV_wk hs) r
                · intro hu
                  have := fire_yes (i := 0) W t.1 hn1 hn2 (by rw [v2]; exact ⟨by decide, by decide⟩) (by rw [v7]; exact ⟨by decide, by decide⟩) 3 (-1) (by rw [tV_due3 hs]; first | exact absurd rfl hu | simp [hu])
                  rw [tV_fire] at this
                  exact this
                · intro x hx
                  have := d3 x
                  rw [hx] at this
                  exact fire_not W this
              have ZN : Hid (∀ W R, Tn w W b g cap (tZ s (-1) (.slice xa 1 xc) R) → Calls Try.prog 13 #[.pointer (some ⟨b, 0, none⟩), .int .i64 (-1)] W fun e w' => e = .returned (.int .i64 (-1)) ∧ Kept No W w') := fun W R t => by
                have := next_tw W t.1 (by rw [(tZ_all s (-1) (.slice xa 1 xc) R).1]; omega) (-1)
                rw [(tZ_all s (-1) (.slice xa 1 xc) R).1, tZ_next] at this
                exact this
              have ZW : Hid (∀ W R, Tn w W b g cap (tZ s (-1) (.slice xa 1 xc) R) → Calls Try.prog 14 #[.pointer (some ⟨b, 0, none⟩), .int .i64 1, .int .i64 3] W fun e w' => e = .returned (.bool false) ∧ w' = W) := fun W R t => wake_not (i := 0) W t.1 (by rw [(tZ_all s (-1) (.slice xa 1 xc) R).1]; omega) (by rw [(tZ_all s (-1) (.slice xa 1 xc) R).1]; omega) (tZ_all s (-1) (.slice xa 1 xc) R).2.2.2.2.2.2 3
              have d3 := (CV.out _ H5.out).1 (-1)
              have HD3 : ((-1) != -1 && (-1) == (-1)) = false := by decide
              rw [HD3] at d3
              clear HD3
              go_upto_region 12 with (first
                | (go_at_call 12; refine d3.mono ?_; rintro e w6 ⟨rfl, k6⟩; have H6 : Hid (Tn w w6 b g cap (tV s (-1) (.slice xa 1 xc))) := H5.out.keep k6; have d1 := (CV.out _ H6.out).2.1; clear k6 d3)
                | (go_at_call 12; refine d1.mono ?_; rintro e w6 ⟨rfl, k6⟩; have H6b : Hid (Tn w w6 b g cap (tV s (-1) (.slice xa 1 xc))) := H6.out.keep k6; have d2 := (CV.out _ H6b.out).2.2.1; clear k6 d1)
                | (go_at_call 12; refine d2.mono ?_; rintro e w7 ⟨rfl, k7⟩; have H7 : Hid (Tn w w7 b g cap (tV s (-1) (.slice xa 1 xc))) := H6b.out.keep k7; clear k7 d2))
              clear H5 H6 H6b
              have n1 := (CV.out _ H7.out).2.2.2.1 (-1)
              have en1 : nstep (-1) (-1) (-1) = -1 := rfl
              rw [en1] at n1
              clear en1
              have mm : ((-1 : Int) != -1) = false := rfl
              go_upto_region 14 with (go_at_call 13; refine n1.mono ?_; rintro e w8 ⟨rfl, k8⟩; have H7c : Hid (Tn w w8 b g cap (tV s (-1) (.slice xa 1 xc))) := H7.out.keep k8; clear k8 n1)
              clear H7
              have wa := (CV.out _ H7c.out).2.2.2.2.1
              go_upto_region 23 with (go_at_call 14; refine wa.mono ?_; rintro e w8 ⟨rfl, t8, k8⟩; have H8 : Hid (Tn w w8 b g cap (tZ s (-1) (.slice xa 1 xc) r)) := H7c.out.step t8 k8; clear t8 k8 wa)
              clear H7c CV
              have gz := get_z _ H8.out.1
              refine wp_region_lit ?_
              go_step
              go_step
              go_step
              go_step
              go_step
              refine gz.mono ?_
              rintro e9 w9 ⟨A, rfl, ga, k9⟩
              clear gz
              dsimp only
              have ez : (w9.alloc (.cells #[.int .i64 0, .int .i64 0, .int .i64 0, .int .i64 0, .int .i64 0, .int .i64 0, .int .i64 0, .int .i64 0, .int .i64 0, .int .i64 0, .int .i64 0, .int .i64 0, .int .i64 0, .int .i64 0, .int .i64 0, .int .i64 0, .int .i64 0, .int .i64 0, .int .i64 0, .int .i64 0, .int .i64 0, .int .i64 0, .int .i64 0, .bool false, .int .i64 0, .int .i64 0, .slice none 0 0, .int .i64 0] 48)) = w9.alloc (.cells Z28 48) := rfl
              go_step
              go_step
              go_step
              go_step
              go_step
              go_step
              go_step
              go_step
              go_step
              go_step
              go_step
              go_step
              go_step
              clear ez
              have b10 := alloc_new w9 (.cells Z28 48)
              obtain ⟨ga1, ga2, ga3, ga4, ga5, ga6, ya, yc, ga7, ga8⟩ := ga
              refine wpList_store_row rfl 48 (.tmp 15) (.tmp 142) rfl w9.heap.size A rfl rfl _ Z28 b10 (by rw [ga1]; exact Try.info48) (by rw [ga1]; rfl) ga2 ?_
              simp only [Act.put]
              have h11 := setRow_heap _ w9.heap.size Z28 A 48 (0, 0) b10
              have k11 : Kept No w9 ((w9.alloc (.cells Z28 48)).setRow w9.heap.size A) := ((Kept.refl No w9).alloc _).setRow (.inr (Nat.le_refl _)) _
              have H11 : Hid (Tn w ((w9.alloc (.cells Z28 48)).setRow w9.heap.size A) b g cap (tZ s (-1) (.slice xa 1 xc) r)) := (H8.out.keep k9).keep k11
              have c0 : ((w9.alloc (.cells Z28 48)).setRow w9.heap.size A).cell? ⟨w9.heap.size, 0, none⟩ = some (.int .i64 1) := (cell_of_row _ _ 0 _ _ _ h11).trans ga3
              have c3 : ((w9.alloc (.cells Z28 48)).setRow w9.heap.size A).cell? ⟨w9.heap.size, 3, none⟩ = some (.int .i64 (r)) := (cell_of_row _ _ 3 _ _ _ h11).trans ga4
              have c4 : ((w9.alloc (.cells Z28 48)).setRow w9.heap.size A).cell? ⟨w9.heap.size, 4, none⟩ = some (.int .i64 9) := (cell_of_row _ _ 4 _ _ _ h11).trans ga5
              have c22 : ((w9.alloc (.cells Z28 48)).setRow w9.heap.size A).cell? ⟨w9.heap.size, 22, none⟩ = some (.int .i64 (-1)) := (cell_of_row _ _ 22 _ _ _ h11).trans ga6
              have c26 : ((w9.alloc (.cells Z28 48)).setRow w9.heap.size A).cell? ⟨w9.heap.size, 26, none⟩ = some (.slice ya 0 yc) := (cell_of_row _ _ 26 _ _ _ h11).trans ga7
              clear k9 b10 ga1 ga2 ga3 ga4 ga5 ga6 ga7 h11 k11
              generalize ((w9.alloc (.cells Z28 48)).setRow w9.heap.size A) = w11 at *
              have nz := ZN.out _ _ H11.out
              go_wp2_with (first
                | (go_at_call 13; refine nz.mono ?_; rintro e w12 ⟨rfl, k12⟩; have H12 : Hid (Tn w w12 b g cap (tZ s (-1) (.slice xa 1 xc) r)) := H11.out.keep k12; have wz := ZW.out _ _ H12.out; clear k12 nz)
                | (go_at_call 14; refine wz.mono ?_; rintro e w13 ⟨rfl, e13⟩; subst e13; clear wz))
              go_ret
              refine ⟨?_, H12.out.2.1.below0⟩
              simp
            | false =>
              go_upto_region 6 with fail
              go_upto_region 10 with (go_at_call 11; refine wy.mono ?_; rintro e w5 ⟨rfl, xa, xc, t5, _, k5⟩; have H5 : Hid (Tn w w5 b g cap (tV s (-1) (.slice xa 1 xc))) := H4.out.step t5 k5; clear t5 k5 wy)
              clear H3 H4 HB
              have CV : Hid (∀ W, Tn w W b g cap (tV s (-1) (.slice xa 1 xc)) → (∀ x, Calls Try.prog 12 #[.pointer (some ⟨b, 0, none⟩), .int .i64 1, .int .i64 3, .int .i64 x] W fun e w' => e = .returned (.bool (x != -1 && (-1) == x)) ∧ Kept No W w') ∧ (Calls Try.prog 12 #[.pointer (some ⟨b, 0, none⟩), .int .i64 1, .int .i64 1, .int .i64 (-1)] W fun e w' => e = .returned (.bool false) ∧ Kept No W w') ∧ (Calls Try.prog 12 #[.pointer (some ⟨b, 0, none⟩), .int .i64 1, .int .i64 2, .int .i64 (-1)] W fun e w' => e = .returned (.bool false) ∧ Kept No W w') ∧ (∀ x, Calls Try.prog 13 #[.pointer (some ⟨b, 0, none⟩), .int .i64 x] W fun e w' => e = .returned (.int .i64 (nstep x (-1) (-1))) ∧ Kept No W w') ∧ (Calls Try.prog 14 #[.pointer (some ⟨b, 0, none⟩), .int .i64 1, .int .i64 r] W fun e w' => e = .returned (.bool true) ∧ Tw w' b g cap (tZ s (-1) (.slice xa 1 xc) r) ∧ Kept (Bg b g) W w') ∧ ((-1) ≠ -1 → Calls Try.prog 15 #[.pointer (some ⟨b, 0, none⟩), .int .i64 1, .int .i64 3, .int .i64 (-1)] W fun e w' => e = .returned (.bool true) ∧ Tw w' b g cap (tZ s (-1) (.slice xa 1 xc) (if s = 2 then 0 else 4)) ∧ Kept (Bg b g) W w') ∧ (∀ x, (x != -1 && (-1) == x) = false → Calls Try.prog 15 #[.pointer (some ⟨b, 0, none⟩), .int .i64 1, .int .i64 3, .int .i64 x] W fun e w' => e = .returned (.bool false) ∧ Kept No W w')) := fun W t => by
                obtain ⟨v1, v2, v3, v4, v5, v6, v7, v8⟩ := tV_all s (-1) (.slice xa 1 xc)
                have hn1 : (0 : Nat) < (tV s (-1) (.slice xa 1 xc)).n := by rw [v1]; omega
                have hn2 : (tV s (-1) (.slice xa 1 xc)).n ≤ 1048576 := by rw [v1]; omega
                have d3 : ∀ x, Calls Try.prog 12 #[.pointer (some ⟨b, 0, none⟩), .int .i64 1, .int .i64 3, .int .i64 x] W fun e w' => e = .returned (.bool (x != -1 && (-1) == x)) ∧ Kept No W w' := fun x => by
                  have := due_any W t.1 hn1 hn2 3 x
                  rw [tV_due3 hs] at this
                  exact this
                refine ⟨d3, ?_, ?_, ?_, ?_, ?_, ?_⟩
                · have := due_any W t.1 hn1 hn2 1 (-1)
                  rw [tV_due1 hs] at this
                  exact this
                · have := due_any W t.1 hn1 hn2 2 (-1)
                  rw [tV_due2 hs] at this
                  exact this
                · intro x
                  have := next_tw W t.1 hn2 x
                  rw [v1, tV_next hs] at this
                  exact this
                · exact wake_yes (i := 0) W t.1 hn1 hn2 (by rw [v2]; exact ⟨by decide, by decide⟩) (tV_wk hs) r
                · intro hu
                  have := fire_yes (i := 0) W t.1 hn1 hn2 (by rw [v2]; exact ⟨by decide, by decide⟩) (by rw [v7]; exact ⟨by decide, by decide⟩) 3 (-1) (by rw [tV_due3 hs]; first | exact absurd rfl hu | simp [hu])
                  rw [tV_fire] at this
                  exact this
                · intro x hx
                  have := d3 x
                  rw [hx] at this
                  exact fire_not W this
              have ZN : Hid (∀ W R, Tn w W b g cap (tZ s (-1) (.slice xa 1 xc) R) → Calls Try.prog 13 #[.pointer (some ⟨b, 0, none⟩), .int .i64 (-1)] W fun e w' => e = .returned (.int .i64 (-1)) ∧ Kept No W w') := fun W R t => by
                have := next_tw W t.1 (by rw [(tZ_all s (-1) (.slice xa 1 xc) R).1]; omega) (-1)
                rw [(tZ_all s (-1) (.slice xa 1 xc) R).1, tZ_next] at this
                exact this
              have ZW : Hid (∀ W R, Tn w W b g cap (tZ s (-1) (.slice xa 1 xc) R) → Calls Try.prog 14 #[.pointer (some ⟨b, 0, none⟩), .int .i64 1, .int .i64 3] W fun e w' => e = .returned (.bool false) ∧ w' = W) := fun W R t => wake_not (i := 0) W t.1 (by rw [(tZ_all s (-1) (.slice xa 1 xc) R).1]; omega) (by rw [(tZ_all s (-1) (.slice xa 1 xc) R).1]; omega) (tZ_all s (-1) (.slice xa 1 xc) R).2.2.2.2.2.2 3
              have d3 := (CV.out _ H5.out).1 (-1)
              have HD3 : ((-1) != -1 && (-1) == (-1)) = false := by decide
              rw [HD3] at d3
              clear HD3
              go_upto_region 12 with (first
                | (go_at_call 12; refine d3.mono ?_; rintro e w6 ⟨rfl, k6⟩; have H6 : Hid (Tn w w6 b g cap (tV s (-1) (.slice xa 1 xc))) := H5.out.keep k6; have d1 := (CV.out _ H6.out).2.1; clear k6 d3)
                | (go_at_call 12; refine d1.mono ?_; rintro e w6 ⟨rfl, k6⟩; have H6b : Hid (Tn w w6 b g cap (tV s (-1) (.slice xa 1 xc))) := H6.out.keep k6; have d2 := (CV.out _ H6b.out).2.2.1; clear k6 d1)
                | (go_at_call 12; refine d2.mono ?_; rintro e w7 ⟨rfl, k7⟩; have H7 : Hid (Tn w w7 b g cap (tV s (-1) (.slice xa 1 xc))) := H6b.out.keep k7; clear k7 d2))
              clear H5 H6 H6b
              have n1 := (CV.out _ H7.out).2.2.2.1 (-1)
              have en1 : nstep (-1) (-1) (-1) = -1 := rfl
              rw [en1] at n1
              clear en1
              have mm : ((-1 : Int) != -1) = false := rfl
              go_upto_region 14 with (go_at_call 13; refine n1.mono ?_; rintro e w8 ⟨rfl, k8⟩; have H7c : Hid (Tn w w8 b g cap (tV s (-1) (.slice xa 1 xc))) := H7.out.keep k8; clear k8 n1)
              clear H7
              have wa := (CV.out _ H7c.out).2.2.2.2.1
              go_upto_region 23 with (go_at_call 14; refine wa.mono ?_; rintro e w8 ⟨rfl, t8, k8⟩; have H8 : Hid (Tn w w8 b g cap (tZ s (-1) (.slice xa 1 xc) r)) := H7c.out.step t8 k8; clear t8 k8 wa)
              clear H7c CV
              have gz := get_z _ H8.out.1
              refine wp_region_lit ?_
              go_step
              go_step
              go_step
              go_step
              go_step
              refine gz.mono ?_
              rintro e9 w9 ⟨A, rfl, ga, k9⟩
              clear gz
              dsimp only
              have ez : (w9.alloc (.cells #[.int .i64 0, .int .i64 0, .int .i64 0, .int .i64 0, .int .i64 0, .int .i64 0, .int .i64 0, .int .i64 0, .int .i64 0, .int .i64 0, .int .i64 0, .int .i64 0, .int .i64 0, .int .i64 0, .int .i64 0, .int .i64 0, .int .i64 0, .int .i64 0, .int .i64 0, .int .i64 0, .int .i64 0, .int .i64 0, .int .i64 0, .bool false, .int .i64 0, .int .i64 0, .slice none 0 0, .int .i64 0] 48)) = w9.alloc (.cells Z28 48) := rfl
              go_step
              go_step
              go_step
              go_step
              go_step
              go_step
              go_step
              go_step
              go_step
              go_step
              go_step
              go_step
              go_step
              clear ez
              have b10 := alloc_new w9 (.cells Z28 48)
              obtain ⟨ga1, ga2, ga3, ga4, ga5, ga6, ya, yc, ga7, ga8⟩ := ga
              refine wpList_store_row rfl 48 (.tmp 15) (.tmp 142) rfl w9.heap.size A rfl rfl _ Z28 b10 (by rw [ga1]; exact Try.info48) (by rw [ga1]; rfl) ga2 ?_
              simp only [Act.put]
              have h11 := setRow_heap _ w9.heap.size Z28 A 48 (0, 0) b10
              have k11 : Kept No w9 ((w9.alloc (.cells Z28 48)).setRow w9.heap.size A) := ((Kept.refl No w9).alloc _).setRow (.inr (Nat.le_refl _)) _
              have H11 : Hid (Tn w ((w9.alloc (.cells Z28 48)).setRow w9.heap.size A) b g cap (tZ s (-1) (.slice xa 1 xc) r)) := (H8.out.keep k9).keep k11
              have c0 : ((w9.alloc (.cells Z28 48)).setRow w9.heap.size A).cell? ⟨w9.heap.size, 0, none⟩ = some (.int .i64 1) := (cell_of_row _ _ 0 _ _ _ h11).trans ga3
              have c3 : ((w9.alloc (.cells Z28 48)).setRow w9.heap.size A).cell? ⟨w9.heap.size, 3, none⟩ = some (.int .i64 (r)) := (cell_of_row _ _ 3 _ _ _ h11).trans ga4
              have c4 : ((w9.alloc (.cells Z28 48)).setRow w9.heap.size A).cell? ⟨w9.heap.size, 4, none⟩ = some (.int .i64 9) := (cell_of_row _ _ 4 _ _ _ h11).trans ga5
              have c22 : ((w9.alloc (.cells Z28 48)).setRow w9.heap.size A).cell? ⟨w9.heap.size, 22, none⟩ = some (.int .i64 (-1)) := (cell_of_row _ _ 22 _ _ _ h11).trans ga6
              have c26 : ((w9.alloc (.cells Z28 48)).setRow w9.heap.size A).cell? ⟨w9.heap.size, 26, none⟩ = some (.slice ya 0 yc) := (cell_of_row _ _ 26 _ _ _ h11).trans ga7
              clear k9 b10 ga1 ga2 ga3 ga4 ga5 ga6 ga7 h11 k11
              generalize ((w9.alloc (.cells Z28 48)).setRow w9.heap.size A) = w11 at *
              have nz := ZN.out _ _ H11.out
              go_wp2_with (first
                | (go_at_call 13; refine nz.mono ?_; rintro e w12 ⟨rfl, k12⟩; have H12 : Hid (Tn w w12 b g cap (tZ s (-1) (.slice xa 1 xc) r)) := H11.out.keep k12; have wz := ZW.out _ _ H12.out; clear k12 nz)
                | (go_at_call 14; refine wz.mono ?_; rintro e w13 ⟨rfl, e13⟩; subst e13; clear wz))
              go_ret
              refine ⟨?_, H12.out.2.1.below0⟩
              simp
          · have un' : ((-1) == now) = false := by simp [un]
            cases wk with
            | true =>
              go_upto_region 6 with fail
              go_upto_region 10 with (go_at_call 11; refine wy.mono ?_; rintro e w5 ⟨rfl, xa, xc, t5, _, k5⟩; have H5 : Hid (Tn w w5 b g cap (tV s (-1) (.slice xa 1 xc))) := H4.out.step t5 k5; clear t5 k5 wy)
              clear H3 H4 HB
              have CV : Hid (∀ W, Tn w W b g cap (tV s (-1) (.slice xa 1 xc)) → (∀ x, Calls Try.prog 12 #[.pointer (some ⟨b, 0, none⟩), .int .i64 1, .int .i64 3, .int .i64 x] W fun e w' => e = .returned (.bool (x != -1 && (-1) == x)) ∧ Kept No W w') ∧ (Calls Try.prog 12 #[.pointer (some ⟨b, 0, none⟩), .int .i64 1, .int .i64 1, .int .i64 now] W fun e w' => e = .returned (.bool false) ∧ Kept No W w') ∧ (Calls Try.prog 12 #[.pointer (some ⟨b, 0, none⟩), .int .i64 1, .int .i64 2, .int .i64 now] W fun e w' => e = .returned (.bool false) ∧ Kept No W w') ∧ (∀ x, Calls Try.prog 13 #[.pointer (some ⟨b, 0, none⟩), .int .i64 x] W fun e w' => e = .returned (.int .i64 (nstep x (-1) (-1))) ∧ Kept No W w') ∧ (Calls Try.prog 14 #[.pointer (some ⟨b, 0, none⟩), .int .i64 1, .int .i64 r] W fun e w' => e = .returned (.bool true) ∧ Tw w' b g cap (tZ s (-1) (.slice xa 1 xc) r) ∧ Kept (Bg b g) W w') ∧ ((-1) ≠ -1 → Calls Try.prog 15 #[.pointer (some ⟨b, 0, none⟩), .int .i64 1, .int .i64 3, .int .i64 (-1)] W fun e w' => e = .returned (.bool true) ∧ Tw w' b g cap (tZ s (-1) (.slice xa 1 xc) (if s = 2 then 0 else 4)) ∧ Kept (Bg b g) W w') ∧ (∀ x, (x != -1 && (-1) == x) = false → Calls Try.prog 15 #[.pointer (some ⟨b, 0, none⟩), .int .i64 1, .int .i64 3, .int .i64 x] W fun e w' => e = .returned (.bool false) ∧ Kept No W w')) := fun W t => by
                obtain ⟨v1, v2, v3, v4, v5, v6, v7, v8⟩ := tV_all s (-1) (.slice xa 1 xc)
                have hn1 : (0 : Nat) < (tV s (-1) (.slice xa 1 xc)).n := by rw [v1]; omega
                have hn2 : (tV s (-1) (.slice xa 1 xc)).n ≤ 1048576 := by rw [v1]; omega
                have d3 : ∀ x, Calls Try.prog 12 #[.pointer (some ⟨b, 0, none⟩), .int .i64 1, .int .i64 3, .int .i64 x] W fun e w' => e = .returned (.bool (x != -1 && (-1) == x)) ∧ Kept No W w' := fun x => by
                  have := due_any W t.1 hn1 hn2 3 x
                  rw [tV_due3 hs] at this
                  exact this
                refine ⟨d3, ?_, ?_, ?_, ?_, ?_, ?_⟩
                · have := due_any W t.1 hn1 hn2 1 now
                  rw [tV_due1 hs] at this
                  exact this
                · have := due_any W t.1 hn1 hn2 2 now
                  rw [tV_due2 hs] at this
                  exact this
                · intro x
                  have := next_tw W t.1 hn2 x
                  rw [v1, tV_next hs] at this
                  exact this
                · exact wake_yes (i := 0) W t.1 hn1 hn2 (by rw [v2]; exact ⟨by decide, by decide⟩) (tV_wk hs) r
                · intro hu
                  have := fire_yes (i := 0) W t.1 hn1 hn2 (by rw [v2]; exact ⟨by decide, by decide⟩) (by rw [v7]; exact ⟨by decide, by decide⟩) 3 (-1) (by rw [tV_due3 hs]; first | exact absurd rfl hu | simp [hu])
                  rw [tV_fire] at this
                  exact this
                · intro x hx
                  have := d3 x
                  rw [hx] at this
                  exact fire_not W this
              have ZN : Hid (∀ W R, Tn w W b g cap (tZ s (-1) (.slice xa 1 xc) R) → Calls Try.prog 13 #[.pointer (some ⟨b, 0, none⟩), .int .i64 (-1)] W fun e w' => e = .returned (.int .i64 (-1)) ∧ Kept No W w') := fun W R t => by
                have := next_tw W t.1 (by rw [(tZ_all s (-1) (.slice xa 1 xc) R).1]; omega) (-1)
                rw [(tZ_all s (-1) (.slice xa 1 xc) R).1, tZ_next] at this
                exact this
              have ZW : Hid (∀ W R, Tn w W b g cap (tZ s (-1) (.slice xa 1 xc) R) → Calls Try.prog 14 #[.pointer (some ⟨b, 0, none⟩), .int .i64 1, .int .i64 3] W fun e w' => e = .returned (.bool false) ∧ w' = W) := fun W R t => wake_not (i := 0) W t.1 (by rw [(tZ_all s (-1) (.slice xa 1 xc) R).1]; omega) (by rw [(tZ_all s (-1) (.slice xa 1 xc) R).1]; omega) (tZ_all s (-1) (.slice xa 1 xc) R).2.2.2.2.2.2 3
              have d3 := (CV.out _ H5.out).1 now
              have HD3 : (now != -1 && (-1) == now) = false := by simp; intro _; exact un
              rw [HD3] at d3
              clear HD3
              go_upto_region 12 with (first
                | (go_at_call 12; refine d3.mono ?_; rintro e w6 ⟨rfl, k6⟩; have H6 : Hid (Tn w w6 b g cap (tV s (-1) (.slice xa 1 xc))) := H5.out.keep k6; have d1 := (CV.out _ H6.out).2.1; clear k6 d3)
                | (go_at_call 12; refine d1.mono ?_; rintro e w6 ⟨rfl, k6⟩; have H6b : Hid (Tn w w6 b g cap (tV s (-1) (.slice xa 1 xc))) := H6.out.keep k6; have d2 := (CV.out _ H6b.out).2.2.1; clear k6 d1)
                | (go_at_call 12; refine d2.mono ?_; rintro e w7 ⟨rfl, k7⟩; have H7 : Hid (Tn w w7 b g cap (tV s (-1) (.slice xa 1 xc))) := H6b.out.keep k7; clear k7 d2))
              clear H5 H6 H6b
              have n1 := (CV.out _ H7.out).2.2.2.1 (-1)
              have en1 : nstep (-1) (-1) (-1) = -1 := rfl
              rw [en1] at n1
              clear en1
              have mm : ((-1 : Int) != -1) = false := rfl
              go_upto_region 14 with (go_at_call 13; refine n1.mono ?_; rintro e w8 ⟨rfl, k8⟩; have H7c : Hid (Tn w w8 b g cap (tV s (-1) (.slice xa 1 xc))) := H7.out.keep k8; clear k8 n1)
              clear H7
              have wa := (CV.out _ H7c.out).2.2.2.2.1
              go_upto_region 23 with (go_at_call 14; refine wa.mono ?_; rintro e w8 ⟨rfl, t8, k8⟩; have H8 : Hid (Tn w w8 b g cap (tZ s (-1) (.slice xa 1 xc) r)) := H7c.out.step t8 k8; clear t8 k8 wa)
              clear H7c CV
              have gz := get_z _ H8.out.1
              refine wp_region_lit ?_
              go_step
              go_step
              go_step
              go_step
              go_step
              refine gz.mono ?_
              rintro e9 w9 ⟨A, rfl, ga, k9⟩
              clear gz
              dsimp only
              have ez : (w9.alloc (.cells #[.int .i64 0, .int .i64 0, .int .i64 0, .int .i64 0, .int .i64 0, .int .i64 0, .int .i64 0, .int .i64 0, .int .i64 0, .int .i64 0, .int .i64 0, .int .i64 0, .int .i64 0, .int .i64 0, .int .i64 0, .int .i64 0, .int .i64 0, .int .i64 0, .int .i64 0, .int .i64 0, .int .i64 0, .int .i64 0, .int .i64 0, .bool false, .int .i64 0, .int .i64 0, .slice none 0 0, .int .i64 0] 48)) = w9.alloc (.cells Z28 48) := rfl
              go_step
              go_step
              go_step
              go_step
              go_step
              go_step
              go_step
              go_step
              go_step
              go_step
              go_step
              go_step
              go_step
              clear ez
              have b10 := alloc_new w9 (.cells Z28 48)
              obtain ⟨ga1, ga2, ga3, ga4, ga5, ga6, ya, yc, ga7, ga8⟩ := ga
              refine wpList_store_row rfl 48 (.tmp 15) (.tmp 142) rfl w9.heap.size A rfl rfl _ Z28 b10 (by rw [ga1]; exact Try.info48) (by rw [ga1]; rfl) ga2 ?_
              simp only [Act.put]
              have h11 := setRow_heap _ w9.heap.size Z28 A 48 (0, 0) b10
              have k11 : Kept No w9 ((w9.alloc (.cells Z28 48)).setRow w9.heap.size A) := ((Kept.refl No w9).alloc _).setRow (.inr (Nat.le_refl _)) _
              have H11 : Hid (Tn w ((w9.alloc (.cells Z28 48)).setRow w9.heap.size A) b g cap (tZ s (-1) (.slice xa 1 xc) r)) := (H8.out.keep k9).keep k11
              have c0 : ((w9.alloc (.cells Z28 48)).setRow w9.heap.size A).cell? ⟨w9.heap.size, 0, none⟩ = some (.int .i64 1) := (cell_of_row _ _ 0 _ _ _ h11).trans ga3
              have c3 : ((w9.alloc (.cells Z28 48)).setRow w9.heap.size A).cell? ⟨w9.heap.size, 3, none⟩ = some (.int .i64 (r)) := (cell_of_row _ _ 3 _ _ _ h11).trans ga4
              have c4 : ((w9.alloc (.cells Z28 48)).setRow w9.heap.size A).cell? ⟨w9.heap.size, 4, none⟩ = some (.int .i64 9) := (cell_of_row _ _ 4 _ _ _ h11).trans ga5
              have c22 : ((w9.alloc (.cells Z28 48)).setRow w9.heap.size A).cell? ⟨w9.heap.size, 22, none⟩ = some (.int .i64 (-1)) := (cell_of_row _ _ 22 _ _ _ h11).trans ga6
              have c26 : ((w9.alloc (.cells Z28 48)).setRow w9.heap.size A).cell? ⟨w9.heap.size, 26, none⟩ = some (.slice ya 0 yc) := (cell_of_row _ _ 26 _ _ _ h11).trans ga7
              clear k9 b10 ga1 ga2 ga3 ga4 ga5 ga6 ga7 h11 k11
              generalize ((w9.alloc (.cells Z28 48)).setRow w9.heap.size A) = w11 at *
              have nz := ZN.out _ _ H11.out
              go_wp2_with (first
                | (go_at_call 13; refine nz.mono ?_; rintro e w12 ⟨rfl, k12⟩; have H12 : Hid (Tn w w12 b g cap (tZ s (-1) (.slice xa 1 xc) r)) := H11.out.keep k12; have wz := ZW.out _ _ H12.out; clear k12 nz)
                | (go_at_call 14; refine wz.mono ?_; rintro e w13 ⟨rfl, e13⟩; subst e13; clear wz))
              go_ret
              refine ⟨?_, H12.out.2.1.below0⟩
              simp
            | false =>
              go_upto_region 6 with fail
              go_upto_region 10 with (go_at_call 11; refine wy.mono ?_; rintro e w5 ⟨rfl, xa, xc, t5, _, k5⟩; have H5 : Hid (Tn w w5 b g cap (tV s (-1) (.slice xa 1 xc))) := H4.out.step t5 k5; clear t5 k5 wy)
              clear H3 H4 HB
              have CV : Hid (∀ W, Tn w W b g cap (tV s (-1) (.slice xa 1 xc)) → (∀ x, Calls Try.prog 12 #[.pointer (some ⟨b, 0, none⟩), .int .i64 1, .int .i64 3, .int .i64 x] W fun e w' => e = .returned (.bool (x != -1 && (-1) == x)) ∧ Kept No W w') ∧ (Calls Try.prog 12 #[.pointer (some ⟨b, 0, none⟩), .int .i64 1, .int .i64 1, .int .i64 now] W fun e w' => e = .returned (.bool false) ∧ Kept No W w') ∧ (Calls Try.prog 12 #[.pointer (some ⟨b, 0, none⟩), .int .i64 1, .int .i64 2, .int .i64 now] W fun e w' => e = .returned (.bool false) ∧ Kept No W w') ∧ (∀ x, Calls Try.prog 13 #[.pointer (some ⟨b, 0, none⟩), .int .i64 x] W fun e w' => e = .returned (.int .i64 (nstep x (-1) (-1))) ∧ Kept No W w') ∧ (Calls Try.prog 14 #[.pointer (some ⟨b, 0, none⟩), .int .i64 1, .int .i64 r] W fun e w' => e = .returned (.bool true) ∧ Tw w' b g cap (tZ s (-1) (.slice xa 1 xc) r) ∧ Kept (Bg b g) W w') ∧ ((-1) ≠ -1 → Calls Try.prog 15 #[.pointer (some ⟨b, 0, none⟩), .int .i64 1, .int .i64 3, .int .i64 (-1)] W fun e w' => e = .returned (.bool true) ∧ Tw w' b g cap (tZ s (-1) (.slice xa 1 xc) (if s = 2 then 0 else 4)) ∧ Kept (Bg b g) W w') ∧ (∀ x, (x != -1 && (-1) == x) = false → Calls Try.prog 15 #[.pointer (some ⟨b, 0, none⟩), .int .i64 1, .int .i64 3, .int .i64 x] W fun e w' => e = .returned (.bool false) ∧ Kept No W w')) := fun W t => by
                obtain ⟨v1, v2, v3, v4, v5, v6, v7, v8⟩ := tV_all s (-1) (.slice xa 1 xc)
                have hn1 : (0 : Nat) < (tV s (-1) (.slice xa 1 xc)).n := by rw [v1]; omega
                have hn2 : (tV s (-1) (.slice xa 1 xc)).n ≤ 1048576 := by rw [v1]; omega
                have d3 : ∀ x, Calls Try.prog 12 #[.pointer (some ⟨b, 0, none⟩), .int .i64 1, .int .i64 3, .int .i64 x] W fun e w' => e = .returned (.bool (x != -1 && (-1) == x)) ∧ Kept No W w' := fun x => by
                  have := due_any W t.1 hn1 hn2 3 x
                  rw [tV_due3 hs] at this
                  exact this
                refine ⟨d3, ?_, ?_, ?_, ?_, ?_, ?_⟩
                · have := due_any W t.1 hn1 hn2 1 now
                  rw [tV_due1 hs] at this
                  exact this
                · have := due_any W t.1 hn1 hn2 2 now
                  rw [tV_due2 hs] at this
                  exact this
                · intro x
                  have := next_tw W t.1 hn2 x
                  rw [v1, tV_next hs] at this
                  exact this
                · exact wake_yes (i := 0) W t.1 hn1 hn2 (by rw [v2]; exact ⟨by decide, by decide⟩) (tV_wk hs) r
                · intro hu
                  have := fire_yes (i := 0) W t.1 hn1 hn2 (by rw [v2]; exact ⟨by decide, by decide⟩) (by rw [v7]; exact ⟨by decide, by decide⟩) 3 (-1) (by rw [tV_due3 hs]; first | exact absurd rfl hu | simp [hu])
                  rw [tV_fire] at this
                  exact this
                · intro x hx
                  have := d3 x
                  rw [hx] at this
                  exact fire_not W this
              have ZN : Hid (∀ W R, Tn w W b g cap (tZ s (-1) (.slice xa 1 xc) R) → Calls Try.prog 13 #[.pointer (some ⟨b, 0, none⟩), .int .i64 (-1)] W fun e w' => e = .returned (.int .i64 (-1)) ∧ Kept No W w') := fun W R t => by
                have := next_tw W t.1 (by rw [(tZ_all s (-1) (.slice xa 1 xc) R).1]; omega) (-1)
                rw [(tZ_all s (-1) (.slice xa 1 xc) R).1, tZ_next] at this
                exact this
              have ZW : Hid (∀ W R, Tn w W b g cap (tZ s (-1) (.slice xa 1 xc) R) → Calls Try.prog 14 #[.pointer (some ⟨b, 0, none⟩), .int .i64 1, .int .i64 3] W fun e w' => e = .returned (.bool false) ∧ w' = W) := fun W R t => wake_not (i := 0) W t.1 (by rw [(tZ_all s (-1) (.slice xa 1 xc) R).1]; omega) (by rw [(tZ_all s (-1) (.slice xa 1 xc) R).1]; omega) (tZ_all s (-1) (.slice xa 1 xc) R).2.2.2.2.2.2 3
              have d3 := (CV.out _ H5.out).1 now
              have HD3 : (now != -1 && (-1) == now) = false := by simp; intro _; exact un
              rw [HD3] at d3
              clear HD3
              go_upto_region 12 with (first
                | (go_at_call 12; refine d3.mono ?_; rintro e w6 ⟨rfl, k6⟩; have H6 : Hid (Tn w w6 b g cap (tV s (-1) (.slice xa 1 xc))) := H5.out.keep k6; have d1 := (CV.out _ H6.out).2.1; clear k6 d3)
                | (go_at_call 12; refine d1.mono ?_; rintro e w6 ⟨rfl, k6⟩; have H6b : Hid (Tn w w6 b g cap (tV s (-1) (.slice xa 1 xc))) := H6.out.keep k6; have d2 := (CV.out _ H6b.out).2.2.1; clear k6 d1)
                | (go_at_call 12; refine d2.mono ?_; rintro e w7 ⟨rfl, k7⟩; have H7 : Hid (Tn w w7 b g cap (tV s (-1) (.slice xa 1 xc))) := H6b.out.keep k7; clear k7 d2))
              clear H5 H6 H6b
              have n1 := (CV.out _ H7.out).2.2.2.1 (-1)
              have en1 : nstep (-1) (-1) (-1) = -1 := rfl
              rw [en1] at n1
              clear en1
              have mm : ((-1 : Int) != -1) = false := rfl
              go_upto_region 14 with (go_at_call 13; refine n1.mono ?_; rintro e w8 ⟨rfl, k8⟩; have H7c : Hid (Tn w w8 b g cap (tV s (-1) (.slice xa 1 xc))) := H7.out.keep k8; clear k8 n1)
              clear H7
              have wa := (CV.out _ H7c.out).2.2.2.2.1
              go_upto_region 23 with (go_at_call 14; refine wa.mono ?_; rintro e w8 ⟨rfl, t8, k8⟩; have H8 : Hid (Tn w w8 b g cap (tZ s (-1) (.slice xa 1 xc) r)) := H7c.out.step t8 k8; clear t8 k8 wa)
              clear H7c CV
              have gz := get_z _ H8.out.1
              refine wp_region_lit ?_
              go_step
              go_step
              go_step
              go_step
              go_step
              refine gz.mono ?_
              rintro e9 w9 ⟨A, rfl, ga, k9⟩
              clear gz
              dsimp only
              have ez : (w9.alloc (.cells #[.int .i64 0, .int .i64 0, .int .i64 0, .int .i64 0, .int .i64 0, .int .i64 0, .int .i64 0, .int .i64 0, .int .i64 0, .int .i64 0, .int .i64 0, .int .i64 0, .int .i64 0, .int .i64 0, .int .i64 0, .int .i64 0, .int .i64 0, .int .i64 0, .int .i64 0, .int .i64 0, .int .i64 0, .int .i64 0, .int .i64 0, .bool false, .int .i64 0, .int .i64 0, .slice none 0 0, .int .i64 0] 48)) = w9.alloc (.cells Z28 48) := rfl
              go_step
              go_step
              go_step
              go_step
              go_step
              go_step
              go_step
              go_step
              go_step
              go_step
              go_step
              go_step
              go_step
              clear ez
              have b10 := alloc_new w9 (.cells Z28 48)
              obtain ⟨ga1, ga2, ga3, ga4, ga5, ga6, ya, yc, ga7, ga8⟩ := ga
              refine wpList_store_row rfl 48 (.tmp 15) (.tmp 142) rfl w9.heap.size A rfl rfl _ Z28 b10 (by rw [ga1]; exact Try.info48) (by rw [ga1]; rfl) ga2 ?_
              simp only [Act.put]
              have h11 := setRow_heap _ w9.heap.size Z28 A 48 (0, 0) b10
              have k11 : Kept No w9 ((w9.alloc (.cells Z28 48)).setRow w9.heap.size A) := ((Kept.refl No w9).alloc _).setRow (.inr (Nat.le_refl _)) _
              have H11 : Hid (Tn w ((w9.alloc (.cells Z28 48)).setRow w9.heap.size A) b g cap (tZ s (-1) (.slice xa 1 xc) r)) := (H8.out.keep k9).keep k11
              have c0 : ((w9.alloc (.cells Z28 48)).setRow w9.heap.size A).cell? ⟨w9.heap.size, 0, none⟩ = some (.int .i64 1) := (cell_of_row _ _ 0 _ _ _ h11).trans ga3
              have c3 : ((w9.alloc (.cells Z28 48)).setRow w9.heap.size A).cell? ⟨w9.heap.size, 3, none⟩ = some (.int .i64 (r)) := (cell_of_row _ _ 3 _ _ _ h11).trans ga4
              have c4 : ((w9.alloc (.cells Z28 48)).setRow w9.heap.size A).cell? ⟨w9.heap.size, 4, none⟩ = some (.int .i64 9) := (cell_of_row _ _ 4 _ _ _ h11).trans ga5
              have c22 : ((w9.alloc (.cells Z28 48)).setRow w9.heap.size A).cell? ⟨w9.heap.size, 22, none⟩ = some (.int .i64 (-1)) := (cell_of_row _ _ 22 _ _ _ h11).trans ga6
              have c26 : ((w9.alloc (.cells Z28 48)).setRow w9.heap.size A).cell? ⟨w9.heap.size, 26, none⟩ = some (.slice ya 0 yc) := (cell_of_row _ _ 26 _ _ _ h11).trans ga7
              clear k9 b10 ga1 ga2 ga3 ga4 ga5 ga6 ga7 h11 k11
              generalize ((w9.alloc (.cells Z28 48)).setRow w9.heap.size A) = w11 at *
              have nz := ZN.out _ _ H11.out
              go_wp2_with (first
                | (go_at_call 13; refine nz.mono ?_; rintro e w12 ⟨rfl, k12⟩; have H12 : Hid (Tn w w12 b g cap (tZ s (-1) (.slice xa 1 xc) r)) := H11.out.keep k12; have wz := ZW.out _ _ H12.out; clear k12 nz)
                | (go_at_call 14; refine wz.mono ?_; rintro e w13 ⟨rfl, e13⟩; subst e13; clear wz))
              go_ret
              refine ⟨?_, H12.out.2.1.below0⟩
              simp
        · have u1' : (u == -1) = false := by simp [u1]
          have u1n : (u != -1) = true := by simp [u1]
          by_cases u0 : 0 ≤ u
          · by_cases u9 : u < 1099511627776
            · have wy := WY.out hs (.inr (by simp [isT, u0, u9]))
              clear WB WY
              by_cases un : u = now
              · subst un
                cases wk with
                | true =>
                  go_upto_region 6 with fail
                  go_upto_region 10 with (go_at_call 11; refine wy.mono ?_; rintro e w5 ⟨rfl, xa, xc, t5, _, k5⟩; have H5 : Hid (Tn w w5 b g cap (tV s u (.slice xa 1 xc))) := H4.out.step t5 k5; clear t5 k5 wy)
                  clear H3 H4 HB
                  have CV : Hid (∀ W, Tn w W b g cap (tV s u (.slice xa 1 xc)) → (∀ x, Calls Try.prog 12 #[.pointer (some ⟨b, 0, none⟩), .int .i64 1, .int .i64 3, .int .i64 x] W fun e w' => e = .returned (.bool (x != -1 && u == x)) ∧ Kept No W w') ∧ (Calls Try.prog 12 #[.pointer (some ⟨b, 0, none⟩), .int .i64 1, .int .i64 1, .int .i64 u] W fun e w' => e = .returned (.bool false) ∧ Kept No W w') ∧ (Calls Try.prog 12 #[.pointer (some ⟨b, 0, none⟩), .int .i64 1, .int .i64 2, .int .i64 u] W fun e w' => e = .returned (.bool false) ∧ Kept No W w') ∧ (∀ x, Calls Try.prog 13 #[.pointer (some ⟨b, 0, none⟩), .int .i64 x] W fun e w' => e = .returned (.int .i64 (nstep x (-1) u)) ∧ Kept No W w') ∧ (Calls Try.prog 14 #[.pointer (some ⟨b, 0, none⟩), .int .i64 1, .int .i64 r] W fun e w' => e = .returned (.bool true) ∧ Tw w' b g cap (tZ s u (.slice xa 1 xc) r) ∧ Kept (Bg b g) W w') ∧ (u ≠ -1 → Calls Try.prog 15 #[.pointer (some ⟨b, 0, none⟩), .int .i64 1, .int .i64 3, .int .i64 u] W fun e w' => e = .returned (.bool true) ∧ Tw w' b g cap (tZ s u (.slice xa 1 xc) (if s = 2 then 0 else 4)) ∧ Kept (Bg b g) W w') ∧ (∀ x, (x != -1 && u == x) = false → Calls Try.prog 15 #[.pointer (some ⟨b, 0, none⟩), .int .i64 1, .int .i64 3, .int .i64 x] W fun e w' => e = .returned (.bool false) ∧ Kept No W w')) := fun W t => by
                    obtain ⟨v1, v2, v3, v4, v5, v6, v7, v8⟩ := tV_all s u (.slice xa 1 xc)
                    have hn1 : (0 : Nat) < (tV s u (.slice xa 1 xc)).n := by rw [v1]; omega
                    have hn2 : (tV s u (.slice xa 1 xc)).n ≤ 1048576 := by rw [v1]; omega
                    have d3 : ∀ x, Calls Try.prog 12 #[.pointer (some ⟨b, 0, none⟩), .int .i64 1, .int .i64 3, .int .i64 x] W fun e w' => e = .returned (.bool (x != -1 && u == x)) ∧ Kept No W w' := fun x => by
                      have := due_any W t.1 hn1 hn2 3 x
                      rw [tV_due3 hs] at this
                      exact this
                    refine ⟨d3, ?_, ?_, ?_, ?_, ?_, ?_⟩
                    · have := due_any W t.1 hn1 hn2 1 u
                      rw [tV_due1 hs] at this
                      exact this
                    · have := due_any W t.1 hn1 hn2 2 u
                      rw [tV_due2 hs] at this
                      exact this
                    · intro x
                      have := next_tw W t.1 hn2 x
                      rw [v1, tV_next hs] at this
                      exact this
                    · exact wake_yes (i := 0) W t.1 hn1 hn2 (by rw [v2]; exact ⟨by decide, by decide⟩) (tV_wk hs) r
                    · intro hu
                      have := fire_yes (i := 0) W t.1 hn1 hn2 (by rw [v2]; exact ⟨by decide, by decide⟩) (by rw [v7]; exact ⟨by decide, by decide⟩) 3 u (by rw [tV_due3 hs]; first | exact absurd rfl hu | simp [hu])
                      rw [tV_fire] at this
                      exact this
                    · intro x hx
                      have := d3 x
                      rw [hx] at this
                      exact fire_not W this
                  have ZN : Hid (∀ W R, Tn w W b g cap (tZ s u (.slice xa 1 xc) R) → Calls Try.prog 13 #[.pointer (some ⟨b, 0, none⟩), .int .i64 (-1)] W fun e w' => e = .returned (.int .i64 (-1)) ∧ Kept No W w') := fun W R t => by
                    have := next_tw W t.1 (by rw [(tZ_all s u (.slice xa 1 xc) R).1]; omega) (-1)
                    rw [(tZ_all s u (.slice xa 1 xc) R).1, tZ_next] at this
                    exact this
                  have ZW : Hid (∀ W R, Tn w W b g cap (tZ s u (.slice xa 1 xc) R) → Calls Try.prog 14 #[.pointer (some ⟨b, 0, none⟩), .int .i64 1, .int .i64 3] W fun e w' => e = .returned (.bool false) ∧ w' = W) := fun W R t => wake_not (i := 0) W t.1 (by rw [(tZ_all s u (.slice xa 1 xc) R).1]; omega) (by rw [(tZ_all s u (.slice xa 1 xc) R).1]; omega) (tZ_all s u (.slice xa 1 xc) R).2.2.2.2.2.2 3
                  have d3 := (CV.out _ H5.out).1 u
                  have HD3 : (u != -1 && u == u) = true := by simp [u1]
                  rw [HD3] at d3
                  clear HD3
                  go_upto_region 12 with (first
                    | (go_at_call 12; refine d3.mono ?_; rintro e w6 ⟨rfl, k6⟩; have H6 : Hid (Tn w w6 b g cap (tV s u (.slice xa 1 xc))) := H5.out.keep k6; have d1 := (CV.out _ H6.out).2.1; clear k6 d3)
                    | (go_at_call 12; refine d1.mono ?_; rintro e w6 ⟨rfl, k6⟩; have H6b : Hid (Tn w w6 b g cap (tV s u (.slice xa 1 xc))) := H6.out.keep k6; have d2 := (CV.out _ H6b.out).2.2.1; clear k6 d1)
                    | (go_at_call 12; refine d2.mono ?_; rintro e w7 ⟨rfl, k7⟩; have H7 : Hid (Tn w w7 b g cap (tV s u (.slice xa 1 xc))) := H6b.out.keep k7; clear k7 d2))
                  clear H5 H6 H6b
                  have n1 := (CV.out _ H7.out).2.2.2.1 u
                  have n2 := fun W (t : Tn w W b g cap (tV s u (.slice xa 1 xc))) => (CV.out W t).2.2.2.1 (u - 1)
                  have en1 : nstep u (-1) u = -1 := by unfold nstep; rw [if_neg (fun h => by omega)]
                  have en2 : nstep (u - 1) (-1) u = u := by unfold nstep; rw [if_pos ⟨u1, by omega, .inl rfl⟩]
                  rw [en1] at n1
                  rw [en2] at n2
                  have HN2 : Hid (∀ W, Tn w W b g cap (tV s u (.slice xa 1 xc)) → Calls Try.prog 13 #[.pointer (some ⟨b, 0, none⟩), .int .i64 (u - 1)] W fun e w' => e = .returned (.int .i64 u) ∧ Kept No W w') := n2
                  clear en1 en2 n2
                  have uu : (u != u) = false := by simp
                  have mm : ((-1 : Int) != -1) = false := rfl
                  go_upto_region 14 with (first
                    | (go_at_call 13; refine n1.mono ?_; rintro e w8 ⟨rfl, k8⟩; have H7b : Hid (Tn w w8 b g cap (tV s u (.slice xa 1 xc))) := H7.out.keep k8; have n2 := HN2.out _ H7b.out; clear k8 n1)
                    | (go_at_call 13; refine n2.mono ?_; rintro e w8 ⟨rfl, k8⟩; have H7c : Hid (Tn w w8 b g cap (tV s u (.slice xa 1 xc))) := H7b.out.keep k8; clear k8 n2))
                  clear H7 H7b HN2
                  have wa := (CV.out _ H7c.out).2.2.2.2.1
                  go_upto_region 23 with (go_at_call 14; refine wa.mono ?_; rintro e w8 ⟨rfl, t8, k8⟩; have H8 : Hid (Tn w w8 b g cap (tZ s u (.slice xa 1 xc) r)) := H7c.out.step t8 k8; clear t8 k8 wa)
                  clear H7c CV
                  have gz := get_z _ H8.out.1
                  refine wp_region_lit ?_
                  go_step
                  go_step
                  go_step
                  go_step
                  go_step
                  refine gz.mono ?_
                  rintro e9 w9 ⟨A, rfl, ga, k9⟩
                  clear gz
                  dsimp only
                  have ez : (w9.alloc (.cells #[.int .i64 0, .int .i64 0, .int .i64 0, .int .i64 0, .int .i64 0, .int .i64 0, .int .i64 0, .int .i64 0, .int .i64 0, .int .i64 0, .int .i64 0, .int .i64 0, .int .i64 0, .int .i64 0, .int .i64 0, .int .i64 0, .int .i64 0, .int .i64 0, .int .i64 0, .int .i64 0, .int .i64 0, .int .i64 0, .int .i64 0, .bool false, .int .i64 0, .int .i64 0, .slice none 0 0, .int .i64 0] 48)) = w9.alloc (.cells Z28 48) := rfl
                  go_step
                  go_step
                  go_step
                  go_step
                  go_step
                  go_step
                  go_step
                  go_step
                  go_step
                  go_step
                  go_step
                  go_step
                  go_step
                  clear ez
                  have b10 := alloc_new w9 (.cells Z28 48)
                  obtain ⟨ga1, ga2, ga3, ga4, ga5, ga6, ya, yc, ga7, ga8⟩ := ga
                  refine wpList_store_row rfl 48 (.tmp 15) (.tmp 142) rfl w9.heap.size A rfl rfl _ Z28 b10 (by rw [ga1]; exact Try.info48) (by rw [ga1]; rfl) ga2 ?_
                  simp only [Act.put]
                  have h11 := setRow_heap _ w9.heap.size Z28 A 48 (0, 0) b10
                  have k11 : Kept No w9 ((w9.alloc (.cells Z28 48)).setRow w9.heap.size A) := ((Kept.refl No w9).alloc _).setRow (.inr (Nat.le_refl _)) _
                  have H11 : Hid (Tn w ((w9.alloc (.cells Z28 48)).setRow w9.heap.size A) b g cap (tZ s u (.slice xa 1 xc) r)) := (H8.out.keep k9).keep k11
                  have c0 : ((w9.alloc (.cells Z28 48)).setRow w9.heap.size A).cell? ⟨w9.heap.size, 0, none⟩ = some (.int .i64 1) := (cell_of_row _ _ 0 _ _ _ h11).trans ga3
                  have c3 : ((w9.alloc (.cells Z28 48)).setRow w9.heap.size A).cell? ⟨w9.heap.size, 3, none⟩ = some (.int .i64 (r)) := (cell_of_row _ _ 3 _ _ _ h11).trans ga4
                  have c4 : ((w9.alloc (.cells Z28 48)).setRow w9.heap.size A).cell? ⟨w9.heap.size, 4, none⟩ = some (.int .i64 9) := (cell_of_row _ _ 4 _ _ _ h11).trans ga5
                  have c22 : ((w9.alloc (.cells Z28 48)).setRow w9.heap.size A).cell? ⟨w9.heap.size, 22, none⟩ = some (.int .i64 (-1)) := (cell_of_row _ _ 22 _ _ _ h11).trans ga6
                  have c26 : ((w9.alloc (.cells Z28 48)).setRow w9.heap.size A).cell? ⟨w9.heap.size, 26, none⟩ = some (.slice ya 0 yc) := (cell_of_row _ _ 26 _ _ _ h11).trans ga7
                  clear k9 b10 ga1 ga2 ga3 ga4 ga5 ga6 ga7 h11 k11
                  generalize ((w9.alloc (.cells Z28 48)).setRow w9.heap.size A) = w11 at *
                  have nz := ZN.out _ _ H11.out
                  go_wp2_with (first
                    | (go_at_call 13; refine nz.mono ?_; rintro e w12 ⟨rfl, k12⟩; have H12 : Hid (Tn w w12 b g cap (tZ s u (.slice xa 1 xc) r)) := H11.out.keep k12; have wz := ZW.out _ _ H12.out; clear k12 nz)
                    | (go_at_call 14; refine wz.mono ?_; rintro e w13 ⟨rfl, e13⟩; subst e13; clear wz))
                  go_ret
                  refine ⟨?_, H12.out.2.1.below0⟩
                  simp
                | false =>
                  go_upto_region 6 with fail
                  go_upto_region 10 with (go_at_call 11; refine wy.mono ?_; rintro e w5 ⟨rfl, xa, xc, t5, _, k5⟩; have H5 : Hid (Tn w w5 b g cap (tV s u (.slice xa 1 xc))) := H4.out.step t5 k5; clear t5 k5 wy)
                  clear H3 H4 HB
                  have CV : Hid (∀ W, Tn w W b g cap (tV s u (.slice xa 1 xc)) → (∀ x, Calls Try.prog 12 #[.pointer (some ⟨b, 0, none⟩), .int .i64 1, .int .i64 3, .int .i64 x] W fun e w' => e = .returned (.bool (x != -1 && u == x)) ∧ Kept No W w') ∧ (Calls Try.prog 12 #[.pointer (some ⟨b, 0, none⟩), .int .i64 1, .int .i64 1, .int .i64 u] W fun e w' => e = .returned (.bool false) ∧ Kept No W w') ∧ (Calls Try.prog 12 #[.pointer (some ⟨b, 0, none⟩), .int .i64 1, .int .i64 2, .int .i64 u] W fun e w' => e = .returned (.bool false) ∧ Kept No W w') ∧ (∀ x, Calls Try.prog 13 #[.pointer (some ⟨b, 0, none⟩), .int .i64 x] W fun e w' => e = .returned (.int .i64 (nstep x (-1) u)) ∧ Kept No W w') ∧ (Calls Try.prog 14 #[.pointer (some ⟨b, 0, none⟩), .int .i64 1, .int .i64 r] W fun e w' => e = .returned (.bool true) ∧ Tw w' b g cap (tZ s u (.slice xa 1 xc) r) ∧ Kept (Bg b g) W w') ∧ (u ≠ -1 → Calls Try.prog 15 #[.pointer (some ⟨b, 0, none⟩), .int .i64 1, .int .i64 3, .int .i64 u] W fun e w' => e = .returned (.bool true) ∧ Tw w' b g cap (tZ s u (.slice xa 1 xc) (if s = 2 then 0 else 4)) ∧ Kept (Bg b g) W w') ∧ (∀ x, (x != -1 && u == x) = false → Calls Try.prog 15 #[.pointer (some ⟨b, 0, none⟩), .int .i64 1, .int .i64 3, .int .i64 x] W fun e w' => e = .returned (.bool false) ∧ Kept No W w')) := fun W t => by
                    obtain ⟨v1, v2, v3, v4, v5, v6, v7, v8⟩ := tV_all s u (.slice xa 1 xc)
                    have hn1 : (0 : Nat) < (tV s u (.slice xa 1 xc)).n := by rw [v1]; omega
                    have hn2 : (tV s u (.slice xa 1 xc)).n ≤ 1048576 := by rw [v1]; omega
                    have d3 : ∀ x, Calls Try.prog 12 #[.pointer (some ⟨b, 0, none⟩), .int .i64 1, .int .i64 3, .int .i64 x] W fun e w' => e = .returned (.bool (x != -1 && u == x)) ∧ Kept No W w' := fun x => by
                      have := due_any W t.1 hn1 hn2 3 x
                      rw [tV_due3 hs] at this
                      exact this
                    refine ⟨d3, ?_, ?_, ?_, ?_, ?_, ?_⟩
                    · have := due_any W t.1 hn1 hn2 1 u
                      rw [tV_due1 hs] at this
                      exact this
                    · have := due_any W t.1 hn1 hn2 2 u
                      rw [tV_due2 hs] at this
                      exact this
                    · intro x
                      have := next_tw W t.1 hn2 x
                      rw [v1, tV_next hs] at this
                      exact this
                    · exact wake_yes (i := 0) W t.1 hn1 hn2 (by rw [v2]; exact ⟨by decide, by decide⟩) (tV_wk hs) r
                    · intro hu
                      have := fire_yes (i := 0) W t.1 hn1 hn2 (by rw [v2]; exact ⟨by decide, by decide⟩) (by rw [v7]; exact ⟨by decide, by decide⟩) 3 u (by rw [tV_due3 hs]; first | exact absurd rfl hu | simp [hu])
                      rw [tV_fire] at this
                      exact this
                    · intro x hx
                      have := d3 x
                      rw [hx] at this
                      exact fire_not W this
                  have ZN : Hid (∀ W R, Tn w W b g cap (tZ s u (.slice xa 1 xc) R) → Calls Try.prog 13 #[.pointer (some ⟨b, 0, none⟩), .int .i64 (-1)] W fun e w' => e = .returned (.int .i64 (-1)) ∧ Kept No W w') := fun W R t => by
                    have := next_tw W t.1 (by rw [(tZ_all s u (.slice xa 1 xc) R).1]; omega) (-1)
                    rw [(tZ_all s u (.slice xa 1 xc) R).1, tZ_next] at this
                    exact this
                  have ZW : Hid (∀ W R, Tn w W b g cap (tZ s u (.slice xa 1 xc) R) → Calls Try.prog 14 #[.pointer (some ⟨b, 0, none⟩), .int .i64 1, .int .i64 3] W fun e w' => e = .returned (.bool false) ∧ w' = W) := fun W R t => wake_not (i := 0) W t.1 (by rw [(tZ_all s u (.slice xa 1 xc) R).1]; omega) (by rw [(tZ_all s u (.slice xa 1 xc) R).1]; omega) (tZ_all s u (.slice xa 1 xc) R).2.2.2.2.2.2 3
                  have d3 := (CV.out _ H5.out).1 u
                  have HD3 : (u != -1 && u == u) = true := by simp [u1]
                  rw [HD3] at d3
                  clear HD3
                  go_upto_region 12 with (first
                    | (go_at_call 12; refine d3.mono ?_; rintro e w6 ⟨rfl, k6⟩; have H6 : Hid (Tn w w6 b g cap (tV s u (.slice xa 1 xc))) := H5.out.keep k6; have d1 := (CV.out _ H6.out).2.1; clear k6 d3)
                    | (go_at_call 12; refine d1.mono ?_; rintro e w6 ⟨rfl, k6⟩; have H6b : Hid (Tn w w6 b g cap (tV s u (.slice xa 1 xc))) := H6.out.keep k6; have d2 := (CV.out _ H6b.out).2.2.1; clear k6 d1)
                    | (go_at_call 12; refine d2.mono ?_; rintro e w7 ⟨rfl, k7⟩; have H7 : Hid (Tn w w7 b g cap (tV s u (.slice xa 1 xc))) := H6b.out.keep k7; clear k7 d2))
                  clear H5 H6 H6b
                  have n1 := (CV.out _ H7.out).2.2.2.1 u
                  have n2 := fun W (t : Tn w W b g cap (tV s u (.slice xa 1 xc))) => (CV.out W t).2.2.2.1 (u - 1)
                  have en1 : nstep u (-1) u = -1 := by unfold nstep; rw [if_neg (fun h => by omega)]
                  have en2 : nstep (u - 1) (-1) u = u := by unfold nstep; rw [if_pos ⟨u1, by omega, .inl rfl⟩]
                  rw [en1] at n1
                  rw [en2] at n2
                  have HN2 : Hid (∀ W, Tn w W b g cap (tV s u (.slice xa 1 xc)) → Calls Try.prog 13 #[.pointer (some ⟨b, 0, none⟩), .int .i64 (u - 1)] W fun e w' => e = .returned (.int .i64 u) ∧ Kept No W w') := n2
                  clear en1 en2 n2
                  have uu : (u != u) = false := by simp
                  have mm : ((-1 : Int) != -1) = false := rfl
                  go_upto_region 14 with (first
                    | (go_at_call 13; refine n1.mono ?_; rintro e w8 ⟨rfl, k8⟩; have H7b : Hid (Tn w w8 b g cap (tV s u (.slice xa 1 xc))) := H7.out.keep k8; have n2 := HN2.out _ H7b.out; clear k8 n1)
                    | (go_at_call 13; refine n2.mono ?_; rintro e w8 ⟨rfl, k8⟩; have H7c : Hid (Tn w w8 b g cap (tV s u (.slice xa 1 xc))) := H7b.out.keep k8; clear k8 n2))
                  clear H7 H7b HN2
                  have f0 := (CV.out _ H7c.out).2.2.2.2.2.2 (u + 1) (by simp; intro _; omega)
                  go_upto_region 23 with (first
                    | (go_at_call 15; refine f0.mono ?_; rintro e w8 ⟨rfl, k8⟩; have H7d : Hid (Tn w w8 b g cap (tV s u (.slice xa 1 xc))) := H7c.out.keep k8; have f1 := (CV.out _ H7d.out).2.2.2.2.2.1 u1; (try rw [if_neg s2] at f1); clear k8 f0)
                    | (go_at_call 15; refine f1.mono ?_; rintro e w8 ⟨rfl, t8, k8⟩; have H8 : Hid (Tn w w8 b g cap (tZ s u (.slice xa 1 xc) 4)) := H7d.out.step t8 k8; clear t8 k8 f1))
                  clear H7c H7d CV
                  have gz := get_z _ H8.out.1
                  refine wp_region_lit ?_
                  go_step
                  go_step
                  go_step
                  go_step
                  go_step
                  refine gz.mono ?_
                  rintro e9 w9 ⟨A, rfl, ga, k9⟩
                  clear gz
                  dsimp only
                  have ez : (w9.alloc (.cells #[.int .i64 0, .int .i64 0, .int .i64 0, .int .i64 0, .int .i64 0, .int .i64 0, .int .i64 0, .int .i64 0, .int .i64 0, .int .i64 0, .int .i64 0, .int .i64 0, .int .i64 0, .int .i64 0, .int .i64 0, .int .i64 0, .int .i64 0, .int .i64 0, .int .i64 0, .int .i64 0, .int .i64 0, .int .i64 0, .int .i64 0, .bool false, .int .i64 0, .int .i64 0, .slice none 0 0, .int .i64 0] 48)) = w9.alloc (.cells Z28 48) := rfl
                  go_step
                  go_step
                  go_step
                  go_step
                  go_step
                  go_step
                  go_step
                  go_step
                  go_step
                  go_step
                  go_step
                  go_step
                  go_step
                  clear ez
                  have b10 := alloc_new w9 (.cells Z28 48)
                  obtain ⟨ga1, ga2, ga3, ga4, ga5, ga6, ya, yc, ga7, ga8⟩ := ga
                  refine wpList_store_row rfl 48 (.tmp 15) (.tmp 142) rfl w9.heap.size A rfl rfl _ Z28 b10 (by rw [ga1]; exact Try.info48) (by rw [ga1]; rfl) ga2 ?_
                  simp only [Act.put]
                  have h11 := setRow_heap _ w9.heap.size Z28 A 48 (0, 0) b10
                  have k11 : Kept No w9 ((w9.alloc (.cells Z28 48)).setRow w9.heap.size A) := ((Kept.refl No w9).alloc _).setRow (.inr (Nat.le_refl _)) _
                  have H11 : Hid (Tn w ((w9.alloc (.cells Z28 48)).setRow w9.heap.size A) b g cap (tZ s u (.slice xa 1 xc) 4)) := (H8.out.keep k9).keep k11
                  have c0 : ((w9.alloc (.cells Z28 48)).setRow w9.heap.size A).cell? ⟨w9.heap.size, 0, none⟩ = some (.int .i64 1) := (cell_of_row _ _ 0 _ _ _ h11).trans ga3
                  have c3 : ((w9.alloc (.cells Z28 48)).setRow w9.heap.size A).cell? ⟨w9.heap.size, 3, none⟩ = some (.int .i64 (4)) := (cell_of_row _ _ 3 _ _ _ h11).trans ga4
                  have c4 : ((w9.alloc (.cells Z28 48)).setRow w9.heap.size A).cell? ⟨w9.heap.size, 4, none⟩ = some (.int .i64 9) := (cell_of_row _ _ 4 _ _ _ h11).trans ga5
                  have c22 : ((w9.alloc (.cells Z28 48)).setRow w9.heap.size A).cell? ⟨w9.heap.size, 22, none⟩ = some (.int .i64 (-1)) := (cell_of_row _ _ 22 _ _ _ h11).trans ga6
                  have c26 : ((w9.alloc (.cells Z28 48)).setRow w9.heap.size A).cell? ⟨w9.heap.size, 26, none⟩ = some (.slice ya 0 yc) := (cell_of_row _ _ 26 _ _ _ h11).trans ga7
                  clear k9 b10 ga1 ga2 ga3 ga4 ga5 ga6 ga7 h11 k11
                  generalize ((w9.alloc (.cells Z28 48)).setRow w9.heap.size A) = w11 at *
                  have nz := ZN.out _ _ H11.out
                  go_wp2_with (first
                    | (go_at_call 13; refine nz.mono ?_; rintro e w12 ⟨rfl, k12⟩; have H12 : Hid (Tn w w12 b g cap (tZ s u (.slice xa 1 xc) 4)) := H11.out.keep k12; have wz := ZW.out _ _ H12.out; clear k12 nz)
                    | (go_at_call 14; refine wz.mono ?_; rintro e w13 ⟨rfl, e13⟩; subst e13; clear wz))
                  go_ret
                  refine ⟨?_, H12.out.2.1.below0⟩
                  simp
              · have un' : (u == now) = false := by simp [un]
                cases wk with
                | true =>
                  go_upto_region 6 with fail
                  go_upto_region 10 with (go_at_call 11; refine wy.mono ?_; rintro e w5 ⟨rfl, xa, xc, t5, _, k5⟩; have H5 : Hid (Tn w w5 b g cap (tV s u (.slice xa 1 xc))) := H4.out.step t5 k5; clear t5 k5 wy)
                  clear H3 H4 HB
                  have CV : Hid (∀ W, Tn w W b g cap (tV s u (.slice xa 1 xc)) → (∀ x, Calls Try.prog 12 #[.pointer (some ⟨b, 0, none⟩), .int .i64 1, .int .i64 3, .int .i64 x] W fun e w' => e = .returned (.bool (x != -1 && u == x)) ∧ Kept No W w') ∧ (Calls Try.prog 12 #[.pointer (some ⟨b, 0, none⟩), .int .i64 1, .int .i64 1, .int .i64 now] W fun e w' => e = .returned (.bool false) ∧ Kept No W w') ∧ (Calls Try.prog 12 #[.pointer (some ⟨b, 0, none⟩), .int .i64 1, .int .i64 2, .int .i64 now] W fun e w' => e = .returned (.bool false) ∧ Kept No W w') ∧ (∀ x, Calls Try.prog 13 #[.pointer (some ⟨b, 0, none⟩), .int .i64 x] W fun e w' => e = .returned (.int .i64 (nstep x (-1) u)) ∧ Kept No W w') ∧ (Calls Try.prog 14 #[.pointer (some ⟨b, 0, none⟩), .int .i64 1, .int .i64 r] W fun e w' => e = .returned (.bool true) ∧ Tw w' b g cap (tZ s u (.slice xa 1 xc) r) ∧ Kept (Bg b g) W w') ∧ (u ≠ -1 → Calls Try.prog 15 #[.pointer (some ⟨b, 0, none⟩), .int .i64 1, .int .i64 3, .int .i64 u] W fun e w' => e = .returned (.bool true) ∧ Tw w' b g cap (tZ s u (.slice xa 1 xc) (if s = 2 then 0 else 4)) ∧ Kept (Bg b g) W w') ∧ (∀ x, (x != -1 && u == x) = false → Calls Try.prog 15 #[.pointer (some ⟨b, 0, none⟩), .int .i64 1, .int .i64 3, .int .i64 x] W fun e w' => e = .returned (.bool false) ∧ Kept No W w')) := fun W t => by
                    obtain ⟨v1, v2, v3, v4, v5, v6, v7, v8⟩ := tV_all s u (.slice xa 1 xc)
                    have hn1 : (0 : Nat) < (tV s u (.slice xa 1 xc)).n := by rw [v1]; omega
                    have hn2 : (tV s u (.slice xa 1 xc)).n ≤ 1048576 := by rw [v1]; omega
                    have d3 : ∀ x, Calls Try.prog 12 #[.pointer (some ⟨b, 0, none⟩), .int .i64 1, .int .i64 3, .int .i64 x] W fun e w' => e = .returned (.bool (x != -1 && u == x)) ∧ Kept No W w' := fun x => by
                      have := due_any W t.1 hn1 hn2 3 x
                      rw [tV_due3 hs] at this
                      exact this
                    refine ⟨d3, ?_, ?_, ?_, ?_, ?_, ?_⟩
                    · have := due_any W t.1 hn1 hn2 1 now
                      rw [tV_due1 hs] at this
                      exact this
                    · have := due_any W t.1 hn1 hn2 2 now
                      rw [tV_due2 hs] at this
                      exact this
                    · intro x
                      have := next_tw W t.1 hn2 x
                      rw [v1, tV_next hs] at this
                      exact this
                    · exact wake_yes (i := 0) W t.1 hn1 hn2 (by rw [v2]; exact ⟨by decide, by decide⟩) (tV_wk hs) r
                    · intro hu
                      have := fire_yes (i := 0) W t.1 hn1 hn2 (by rw [v2]; exact ⟨by decide, by decide⟩) (by rw [v7]; exact ⟨by decide, by decide⟩) 3 u (by rw [tV_due3 hs]; first | exact absurd rfl hu | simp [hu])
                      rw [tV_fire] at this
                      exact this
                    · intro x hx
                      have := d3 x
                      rw [hx] at this
                      exact fire_not W this
                  have ZN : Hid (∀ W R, Tn w W b g cap (tZ s u (.slice xa 1 xc) R) → Calls Try.prog 13 #[.pointer (some ⟨b, 0, none⟩), .int .i64 (-1)] W fun e w' => e = .returned (.int .i64 (-1)) ∧ Kept No W w') := fun W R t => by
                    have := next_tw W t.1 (by rw [(tZ_all s u (.slice xa 1 xc) R).1]; omega) (-1)
                    rw [(tZ_all s u (.slice xa 1 xc) R).1, tZ_next] at this
                    exact this
                  have ZW : Hid (∀ W R, Tn w W b g cap (tZ s u (.slice xa 1 xc) R) → Calls Try.prog 14 #[.pointer (some ⟨b, 0, none⟩), .int .i64 1, .int .i64 3] W fun e w' => e = .returned (.bool false) ∧ w' = W) := fun W R t => wake_not (i := 0) W t.1 (by rw [(tZ_all s u (.slice xa 1 xc) R).1]; omega) (by rw [(tZ_all s u (.slice xa 1 xc) R).1]; omega) (tZ_all s u (.slice xa 1 xc) R).2.2.2.2.2.2 3
                  have d3 := (CV.out _ H5.out).1 now
                  have HD3 : (now != -1 && u == now) = false := by simp; intro _; exact un
                  rw [HD3] at d3
                  clear HD3
                  go_upto_region 12 with (first
                    | (go_at_call 12; refine d3.mono ?_; rintro e w6 ⟨rfl, k6⟩; have H6 : Hid (Tn w w6 b g cap (tV s u (.slice xa 1 xc))) := H5.out.keep k6; have d1 := (CV.out _ H6.out).2.1; clear k6 d3)
                    | (go_at_call 12; refine d1.mono ?_; rintro e w6 ⟨rfl, k6⟩; have H6b : Hid (Tn w w6 b g cap (tV s u (.slice xa 1 xc))) := H6.out.keep k6; have d2 := (CV.out _ H6b.out).2.2.1; clear k6 d1)
                    | (go_at_call 12; refine d2.mono ?_; rintro e w7 ⟨rfl, k7⟩; have H7 : Hid (Tn w w7 b g cap (tV s u (.slice xa 1 xc))) := H6b.out.keep k7; clear k7 d2))
                  clear H5 H6 H6b
                  have n1 := (CV.out _ H7.out).2.2.2.1 u
                  have n2 := fun W (t : Tn w W b g cap (tV s u (.slice xa 1 xc))) => (CV.out W t).2.2.2.1 (u - 1)
                  have en1 : nstep u (-1) u = -1 := by unfold nstep; rw [if_neg (fun h => by omega)]
                  have en2 : nstep (u - 1) (-1) u = u := by unfold nstep; rw [if_pos ⟨u1, by omega, .inl rfl⟩]
                  rw [en1] at n1
                  rw [en2] at n2
                  have HN2 : Hid (∀ W, Tn w W b g cap (tV s u (.slice xa 1 xc)) → Calls Try.prog 13 #[.pointer (some ⟨b, 0, none⟩), .int .i64 (u - 1)] W fun e w' => e = .returned (.int .i64 u) ∧ Kept No W w') := n2
                  clear en1 en2 n2
                  have uu : (u != u) = false := by simp
                  have mm : ((-1 : Int) != -1) = false := rfl
                  go_upto_region 14 with (first
                    | (go_at_call 13; refine n1.mono ?_; rintro e w8 ⟨rfl, k8⟩; have H7b : Hid (Tn w w8 b g cap (tV s u (.slice xa 1 xc))) := H7.out.keep k8; have n2 := HN2.out _ H7b.out; clear k8 n1)
                    | (go_at_call 13; refine n2.mono ?_; rintro e w8 ⟨rfl, k8⟩; have H7c : Hid (Tn w w8 b g cap (tV s u (.slice xa 1 xc))) := H7b.out.keep k8; clear k8 n2))
                  clear H7 H7b HN2
                  have wa := (CV.out _ H7c.out).2.2.2.2.1
                  go_upto_region 23 with (go_at_call 14; refine wa.mono ?_; rintro e w8 ⟨rfl, t8, k8⟩; have H8 : Hid (Tn w w8 b g cap (tZ s u (.slice xa 1 xc) r)) := H7c.out.step t8 k8; clear t8 k8 wa)
                  clear H7c CV
                  have gz := get_z _ H8.out.1
                  refine wp_region_lit ?_
                  go_step
                  go_step
                  go_step
                  go_step
                  go_step
                  refine gz.mono ?_
                  rintro e9 w9 ⟨A, rfl, ga, k9⟩
                  clear gz
                  dsimp only
                  have ez : (w9.alloc (.cells #[.int .i64 0, .int .i64 0, .int .i64 0, .int .i64 0, .int .i64 0, .int .i64 0, .int .i64 0, .int .i64 0, .int .i64 0, .int .i64 0, .int .i64 0, .int .i64 0, .int .i64 0, .int .i64 0, .int .i64 0, .int .i64 0, .int .i64 0, .int .i64 0, .int .i64 0, .int .i64 0, .int .i64 0, .int .i64 0, .int .i64 0, .bool false, .int .i64 0, .int .i64 0, .slice none 0 0, .int .i64 0] 48)) = w9.alloc (.cells Z28 48) := rfl
                  go_step
                  go_step
                  go_step
                  go_step
                  go_step
                  go_step
                  go_step
                  go_step
                  go_step
                  go_step
                  go_step
                  go_step
                  go_step
                  clear ez
                  have b10 := alloc_new w9 (.cells Z28 48)
                  obtain ⟨ga1, ga2, ga3, ga4, ga5, ga6, ya, yc, ga7, ga8⟩ := ga
                  refine wpList_store_row rfl 48 (.tmp 15) (.tmp 142) rfl w9.heap.size A rfl rfl _ Z28 b10 (by rw [ga1]; exact Try.info48) (by rw [ga1]; rfl) ga2 ?_
                  simp only [Act.put]
                  have h11 := setRow_heap _ w9.heap.size Z28 A 48 (0, 0) b10
                  have k11 : Kept No w9 ((w9.alloc (.cells Z28 48)).setRow w9.heap.size A) := ((Kept.refl No w9).alloc _).setRow (.inr (Nat.le_refl _)) _
                  have H11 : Hid (Tn w ((w9.alloc (.cells Z28 48)).setRow w9.heap.size A) b g cap (tZ s u (.slice xa 1 xc) r)) := (H8.out.keep k9).keep k11
                  have c0 : ((w9.alloc (.cells Z28 48)).setRow w9.heap.size A).cell? ⟨w9.heap.size, 0, none⟩ = some (.int .i64 1) := (cell_of_row _ _ 0 _ _ _ h11).trans ga3
                  have c3 : ((w9.alloc (.cells Z28 48)).setRow w9.heap.size A).cell? ⟨w9.heap.size, 3, none⟩ = some (.int .i64 (r)) := (cell_of_row _ _ 3 _ _ _ h11).trans ga4
                  have c4 : ((w9.alloc (.cells Z28 48)).setRow w9.heap.size A).cell? ⟨w9.heap.size, 4, none⟩ = some (.int .i64 9) := (cell_of_row _ _ 4 _ _ _ h11).trans ga5
                  have c22 : ((w9.alloc (.cells Z28 48)).setRow w9.heap.size A).cell? ⟨w9.heap.size, 22, none⟩ = some (.int .i64 (-1)) := (cell_of_row _ _ 22 _ _ _ h11).trans ga6
                  have c26 : ((w9.alloc (.cells Z28 48)).setRow w9.heap.size A).cell? ⟨w9.heap.size, 26, none⟩ = some (.slice ya 0 yc) := (cell_of_row _ _ 26 _ _ _ h11).trans ga7
                  clear k9 b10 ga1 ga2 ga3 ga4 ga5 ga6 ga7 h11 k11
                  generalize ((w9.alloc (.cells Z28 48)).setRow w9.heap.size A) = w11 at *
                  have nz := ZN.out _ _ H11.out
                  go_wp2_with (first
                    | (go_at_call 13; refine nz.mono ?_; rintro e w12 ⟨rfl, k12⟩; have H12 : Hid (Tn w w12 b g cap (tZ s u (.slice xa 1 xc) r)) := H11.out.keep k12; have wz := ZW.out _ _ H12.out; clear k12 nz)
                    | (go_at_call 14; refine wz.mono ?_; rintro e w13 ⟨rfl, e13⟩; subst e13; clear wz))
                  go_ret
                  refine ⟨?_, H12.out.2.1.below0⟩
                  simp
                | false =>
                  go_upto_region 6 with fail
                  go_upto_region 10 with (go_at_call 11; refine wy.mono ?_; rintro e w5 ⟨rfl, xa, xc, t5, _, k5⟩; have H5 : Hid (Tn w w5 b g cap (tV s u (.slice xa 1 xc))) := H4.out.step t5 k5; clear t5 k5 wy)
                  clear H3 H4 HB
                  have CV : Hid (∀ W, Tn w W b g cap (tV s u (.slice xa 1 xc)) → (∀ x, Calls Try.prog 12 #[.pointer (some ⟨b, 0, none⟩), .int .i64 1, .int .i64 3, .int .i64 x] W fun e w' => e = .returned (.bool (x != -1 && u == x)) ∧ Kept No W w') ∧ (Calls Try.prog 12 #[.pointer (some ⟨b, 0, none⟩), .int .i64 1, .int .i64 1, .int .i64 now] W fun e w' => e = .returned (.bool false) ∧ Kept No W w') ∧ (Calls Try.prog 12 #[.pointer (some ⟨b, 0, none⟩), .int .i64 1, .int .i64 2, .int .i64 now] W fun e w' => e = .returned (.bool false) ∧ Kept No W w') ∧ (∀ x, Calls Try.prog 13 #[.pointer (some ⟨b, 0, none⟩), .int .i64 x] W fun e w' => e = .returned (.int .i64 (nstep x (-1) u)) ∧ Kept No W w') ∧ (Calls Try.prog 14 #[.pointer (some ⟨b, 0, none⟩), .int .i64 1, .int .i64 r] W fun e w' => e = .returned (.bool true) ∧ Tw w' b g cap (tZ s u (.slice xa 1 xc) r) ∧ Kept (Bg b g) W w') ∧ (u ≠ -1 → Calls Try.prog 15 #[.pointer (some ⟨b, 0, none⟩), .int .i64 1, .int .i64 3, .int .i64 u] W fun e w' => e = .returned (.bool true) ∧ Tw w' b g cap (tZ s u (.slice xa 1 xc) (if s = 2 then 0 else 4)) ∧ Kept (Bg b g) W w') ∧ (∀ x, (x != -1 && u == x) = false → Calls Try.prog 15 #[.pointer (some ⟨b, 0, none⟩), .int .i64 1, .int .i64 3, .int .i64 x] W fun e w' => e = .returned (.bool false) ∧ Kept No W w')) := fun W t => by
                    obtain ⟨v1, v2, v3, v4, v5, v6, v7, v8⟩ := tV_all s u (.slice xa 1 xc)
                    have hn1 : (0 : Nat) < (tV s u (.slice xa 1 xc)).n := by rw [v1]; omega
                    have hn2 : (tV s u (.slice xa 1 xc)).n ≤ 1048576 := by rw [v1]; omega
                    have d3 : ∀ x, Calls Try.prog 12 #[.pointer (some ⟨b, 0, none⟩), .int .i64 1, .int .i64 3, .int .i64 x] W fun e w' => e = .returned (.bool (x != -1 && u == x)) ∧ Kept No W w' := fun x => by
                      have := due_any W t.1 hn1 hn2 3 x
                      rw [tV_due3 hs] at this
                      exact this
                    refine ⟨d3, ?_, ?_, ?_, ?_, ?_, ?_⟩
                    · have := due_any W t.1 hn1 hn2 1 now
                      rw [tV_due1 hs] at this
                      exact this
                    · have := due_any W t.1 hn1 hn2 2 now
                      rw [tV_due2 hs] at this
                      exact this
                    · intro x
                      have := next_tw W t.1 hn2 x
                      rw [v1, tV_next hs] at this
                      exact this
                    · exact wake_yes (i := 0) W t.1 hn1 hn2 (by rw [v2]; exact ⟨by decide, by decide⟩) (tV_wk hs) r
                    · intro hu
                      have := fire_yes (i := 0) W t.1 hn1 hn2 (by rw [v2]; exact ⟨by decide, by decide⟩) (by rw [v7]; exact ⟨by decide, by decide⟩) 3 u (by rw [tV_due3 hs]; first | exact absurd rfl hu | simp [hu])
                      rw [tV_fire] at this
                      exact this
                    · intro x hx
                      have := d3 x
                      rw [hx] at this
                      exact fire_not W this
                  have ZN : Hid (∀ W R, Tn w W b g cap (tZ s u (.slice xa 1 xc) R) → Calls Try.prog 13 #[.pointer (some ⟨b, 0, none⟩), .int .i64 (-1)] W fun e w' => e = .returned (.int .i64 (-1)) ∧ Kept No W w') := fun W R t => by
                    have := next_tw W t.1 (by rw [(tZ_all s u (.slice xa 1 xc) R).1]; omega) (-1)
                    rw [(tZ_all s u (.slice xa 1 xc) R).1, tZ_next] at this
                    exact this
                  have ZW : Hid (∀ W R, Tn w W b g cap (tZ s u (.slice xa 1 xc) R) → Calls Try.prog 14 #[.pointer (some ⟨b, 0, none⟩), .int .i64 1, .int .i64 3] W fun e w' => e = .returned (.bool false) ∧ w' = W) := fun W R t => wake_not (i := 0) W t.1 (by rw [(tZ_all s u (.slice xa 1 xc) R).1]; omega) (by rw [(tZ_all s u (.slice xa 1 xc) R).1]; omega) (tZ_all s u (.slice xa 1 xc) R).2.2.2.2.2.2 3
                  have d3 := (CV.out _ H5.out).1 now
                  have HD3 : (now != -1 && u == now) = false := by simp; intro _; exact un
                  rw [HD3] at d3
                  clear HD3
                  go_upto_region 12 with (first
                    | (go_at_call 12; refine d3.mono ?_; rintro e w6 ⟨rfl, k6⟩; have H6 : Hid (Tn w w6 b g cap (tV s u (.slice xa 1 xc))) := H5.out.keep k6; have d1 := (CV.out _ H6.out).2.1; clear k6 d3)
                    | (go_at_call 12; refine d1.mono ?_; rintro e w6 ⟨rfl, k6⟩; have H6b : Hid (Tn w w6 b g cap (tV s u (.slice xa 1 xc))) := H6.out.keep k6; have d2 := (CV.out _ H6b.out).2.2.1; clear k6 d1)
                    | (go_at_call 12; refine d2.mono ?_; rintro e w7 ⟨rfl, k7⟩; have H7 : Hid (Tn w w7 b g cap (tV s u (.slice xa 1 xc))) := H6b.out.keep k7; clear k7 d2))
                  clear H5 H6 H6b
                  have n1 := (CV.out _ H7.out).2.2.2.1 u
                  have n2 := fun W (t : Tn w W b g cap (tV s u (.slice xa 1 xc))) => (CV.out W t).2.2.2.1 (u - 1)
                  have en1 : nstep u (-1) u = -1 := by unfold nstep; rw [if_neg (fun h => by omega)]
                  have en2 : nstep (u - 1) (-1) u = u := by unfold nstep; rw [if_pos ⟨u1, by omega, .inl rfl⟩]
                  rw [en1] at n1
                  rw [en2] at n2
                  have HN2 : Hid (∀ W, Tn w W b g cap (tV s u (.slice xa 1 xc)) → Calls Try.prog 13 #[.pointer (some ⟨b, 0, none⟩), .int .i64 (u - 1)] W fun e w' => e = .returned (.int .i64 u) ∧ Kept No W w') := n2
                  clear en1 en2 n2
                  have uu : (u != u) = false := by simp
                  have mm : ((-1 : Int) != -1) = false := rfl
                  go_upto_region 14 with (first
                    | (go_at_call 13; refine n1.mono ?_; rintro e w8 ⟨rfl, k8⟩; have H7b : Hid (Tn w w8 b g cap (tV s u (.slice xa 1 xc))) := H7.out.keep k8; have n2 := HN2.out _ H7b.out; clear k8 n1)
                    | (go_at_call 13; refine n2.mono ?_; rintro e w8 ⟨rfl, k8⟩; have H7c : Hid (Tn w w8 b g cap (tV s u (.slice xa 1 xc))) := H7b.out.keep k8; clear k8 n2))
                  clear H7 H7b HN2
                  have f0 := (CV.out _ H7c.out).2.2.2.2.2.2 (u + 1) (by simp; intro _; omega)
                  go_upto_region 23 with (first
                    | (go_at_call 15; refine f0.mono ?_; rintro e w8 ⟨rfl, k8⟩; have H7d : Hid (Tn w w8 b g cap (tV s u (.slice xa 1 xc))) := H7c.out.keep k8; have f1 := (CV.out _ H7d.out).2.2.2.2.2.1 u1; (try rw [if_neg s2] at f1); clear k8 f0)
                    | (go_at_call 15; refine f1.mono ?_; rintro e w8 ⟨rfl, t8, k8⟩; have H8 : Hid (Tn w w8 b g cap (tZ s u (.slice xa 1 xc) 4)) := H7d.out.step t8 k8; clear t8 k8 f1))
                  clear H7c H7d CV
                  have gz := get_z _ H8.out.1
                  refine wp_region_lit ?_
                  go_step
                  go_step
                  go_step
                  go_step
                  go_step
                  refine gz.mono ?_
                  rintro e9 w9 ⟨A, rfl, ga, k9⟩
                  clear gz
                  dsimp only
                  have ez : (w9.alloc (.cells #[.int .i64 0, .int .i64 0, .int .i64 0, .int .i64 0, .int .i64 0, .int .i64 0, .int .i64 0, .int .i64 0, .int .i64 0, .int .i64 0, .int .i64 0, .int .i64 0, .int .i64 0, .int .i64 0, .int .i64 0, .int .i64 0, .int .i64 0, .int .i64 0, .int .i64 0, .int .i64 0, .int .i64 0, .int .i64 0, .int .i64 0, .bool false, .int .i64 0, .int .i64 0, .slice none 0 0, .int .i64 0] 48)) = w9.alloc (.cells Z28 48) := rfl
                  go_step
                  go_step
                  go_step
                  go_step
                  go_step
                  go_step
                  go_step
                  go_step
                  go_step
                  go_step
                  go_step
                  go_step
                  go_step
                  clear ez
                  have b10 := alloc_new w9 (.cells Z28 48)
                  obtain ⟨ga1, ga2, ga3, ga4, ga5, ga6, ya, yc, ga7, ga8⟩ := ga
                  refine wpList_store_row rfl 48 (.tmp 15) (.tmp 142) rfl w9.heap.size A rfl rfl _ Z28 b10 (by rw [ga1]; exact Try.info48) (by rw [ga1]; rfl) ga2 ?_
                  simp only [Act.put]
                  have h11 := setRow_heap _ w9.heap.size Z28 A 48 (0, 0) b10
                  have k11 : Kept No w9 ((w9.alloc (.cells Z28 48)).setRow w9.heap.size A) := ((Kept.refl No w9).alloc _).setRow (.inr (Nat.le_refl _)) _
                  have H11 : Hid (Tn w ((w9.alloc (.cells Z28 48)).setRow w9.heap.size A) b g cap (tZ s u (.slice xa 1 xc) 4)) := (H8.out.keep k9).keep k11
                  have c0 : ((w9.alloc (.cells Z28 48)).setRow w9.heap.size A).cell? ⟨w9.heap.size, 0, none⟩ = some (.int .i64 1) := (cell_of_row _ _ 0 _ _ _ h11).trans ga3
                  have c3 : ((w9.alloc (.cells Z28 48)).setRow w9.heap.size A).cell? ⟨w9.heap.size, 3, none⟩ = some (.int .i64 (4)) := (cell_of_row _ _ 3 _ _ _ h11).trans ga4
                  have c4 : ((w9.alloc (.cells Z28 48)).setRow w9.heap.size A).cell? ⟨w9.heap.size, 4, none⟩ = some (.int .i64 9) := (cell_of_row _ _ 4 _ _ _ h11).trans ga5
                  have c22 : ((w9.alloc (.cells Z28 48)).setRow w9.heap.size A).cell? ⟨w9.heap.size, 22, none⟩ = some (.int .i64 (-1)) := (cell_of_row _ _ 22 _ _ _ h11).trans ga6
                  have c26 : ((w9.alloc (.cells Z28 48)).setRow w9.heap.size A).cell? ⟨w9.heap.size, 26, none⟩ = some (.slice ya 0 yc) := (cell_of_row _ _ 26 _ _ _ h11).trans ga7
                  clear k9 b10 ga1 ga2 ga3 ga4 ga5 ga6 ga7 h11 k11
                  generalize ((w9.alloc (.cells Z28 48)).setRow w9.heap.size A) = w11 at *
                  have nz := ZN.out _ _ H11.out
                  go_wp2_with (first
                    | (go_at_call 13; refine nz.mono ?_; rintro e w12 ⟨rfl, k12⟩; have H12 : Hid (Tn w w12 b g cap (tZ s u (.slice xa 1 xc) 4)) := H11.out.keep k12; have wz := ZW.out _ _ H12.out; clear k12 nz)
                    | (go_at_call 14; refine wz.mono ?_; rintro e w13 ⟨rfl, e13⟩; subst e13; clear wz))
                  go_ret
                  refine ⟨?_, H12.out.2.1.below0⟩
                  simp
            · have wb := WB.out (.inr ⟨u1, by simp [isT]; omega⟩)
              clear WB WY
              go_upto_region 6 with fail
              go_wp2_with (go_at_call 11; refine wb.mono ?_; rintro e w5 ⟨rfl, rfl⟩; clear wb)
              go_ret
              exact ⟨rfl, H4.out.2.1.below0⟩
          · have wb := WB.out (.inr ⟨u1, by simp [isT]; omega⟩)
            clear WB WY
            go_upto_region 6 with fail
            go_wp2_with (go_at_call 11; refine wb.mono ?_; rintro e w5 ⟨rfl, rfl⟩; clear wb)
            go_ret
            exact ⟨rfl, H4.out.2.1.below0⟩
      · have hf : fw s = false := by simp [fw]; omega
        have wb := WB.out (.inl hf)
        clear WB WY hf
        by_cases u1 : u = -1
        · subst u1
          go_upto_region 6 with fail
          go_wp2_with (go_at_call 11; refine wb.mono ?_; rintro e w5 ⟨rfl, rfl⟩; clear wb)
          go_ret
          exact ⟨rfl, H4.out.2.1.below0⟩
        · have u1' : (u == -1) = false := by simp [u1]
          have u1n : (u != -1) = true := by simp [u1]
          by_cases u0 : 0 ≤ u
          · by_cases u9 : u < 1099511627776
            · go_upto_region 6 with fail
              go_wp2_with (go_at_call 11; refine wb.mono ?_; rintro e w5 ⟨rfl, rfl⟩; clear wb)
              go_ret
              exact ⟨rfl, H4.out.2.1.below0⟩
            · go_upto_region 6 with fail
              go_wp2_with (go_at_call 11; refine wb.mono ?_; rintro e w5 ⟨rfl, rfl⟩; clear wb)
              go_ret
              exact ⟨rfl, H4.out.2.1.below0⟩
          · go_upto_region 6 with fail
            go_wp2_with (go_at_call 11; refine wb.mono ?_; rintro e w5 ⟨rfl, rfl⟩; clear wb)
            go_ret
            exact ⟨rfl, H4.out.2.1.below0⟩
    · have hf : fw s = false := by simp [fw]; omega
      have wb := WB.out (.inl hf)
      clear WB WY hf
      by_cases u1 : u = -1
      · subst u1
        go_upto_region 6 with fail
        go_wp2_with (go_at_call 11; refine wb.mono ?_; rintro e w5 ⟨rfl, rfl⟩; clear wb)
        go_ret
        exact ⟨rfl, H4.out.2.1.below0⟩
      · have u1' : (u == -1) = false := by simp [u1]
        have u1n : (u != -1) = true := by simp [u1]
        by_cases u0 : 0 ≤ u
        · by_cases u9 : u < 1099511627776
          · go_upto_region 6 with fail
            go_wp2_with (go_at_call 11; refine wb.mono ?_; rintro e w5 ⟨rfl, rfl⟩; clear wb)
            go_ret
            exact ⟨rfl, H4.out.2.1.below0⟩
          · go_upto_region 6 with fail
            go_wp2_with (go_at_call 11; refine wb.mono ?_; rintro e w5 ⟨rfl, rfl⟩; clear wb)
            go_ret
            exact ⟨rfl, H4.out.2.1.below0⟩
        · go_upto_region 6 with fail
          go_wp2_with (go_at_call 11; refine wb.mono ?_; rintro e w5 ⟨rfl, rfl⟩; clear wb)
          go_ret
          exact ⟨rfl, H4.out.2.1.below0⟩
end Go.Proofs.Ytofkacfchkimiaa
