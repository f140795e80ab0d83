/-
  ProcJobs: the walk.
-/
import Derived.Test.YtofkacfchkimiaaPJobG
namespace Go.Proofs.Ytofkacfchkimiaa
open Go.RowKit Plain
set_option linter.unusedVariables false
set_option maxRecDepth 100000

set_option maxHeartbeats 16000000 in
theorem jobs_law {F : Nat → Prop} {sa : Option Addr} {sn sc : Nat} {gs : Nat → Int} {ds : Nat → Bool} (per lim s : Int) (w : World) (hj : Js w F sa sn sc gs ds) (hp : 1 ≤ per) (hp2 : per ≤ 200) (hl : 0 ≤ lim) (hl2 : lim ≤ per) (hs : 0 ≤ s) (hs2 : s ≤ 549755813888) : Calls Try.prog 4 #[.int .i64 per, .int .i64 lim, .int .i64 s, .slice sa sn sc] w fun e w' => e = .returned (.bool true) ∧ Below w.heap.size w w' := by
  have nw := new_one w ⟨0, 1, per, lim, 0, false⟩
  have hjc := hj.cap
  have hjm := hj.max
  have HJ : Hid (Js w F sa sn sc gs ds) := hj
  clear hj
  go_enter Try.func4, Try.ntmps4
  go_upto_region 4 with (go_at_call 8; refine nw.mono ?_; rintro e w1 ⟨rfl, g, cap, t1⟩; clear nw)
  obtain ⟨b, hb⟩ : ∃ b, w.heap.size + 3 = b := ⟨_, rfl⟩
  rw [hb] at t1
  simp only [hb]
  clear hb
  have kn := known_any w1
  have HT : Hid (Tn w w1 b g cap (T1 ⟨0, 1, per, lim, 0, false⟩)) := t1
  clear t1
  have ST : Hid (∀ W, Tn w W b g cap (T1 ⟨0, 1, per, lim, 0, false⟩) → Calls Try.prog 10 #[.pointer (some ⟨b, 0, none⟩), .int .i64 1, .int .i64 s, .agg #[.int .i64 0, .int .i64 0, .int .i64 0]] W fun e w' => e = .returned (.bool true) ∧ Tw w' b g cap (jU per lim s) ∧ Kept (Bg b g) W w') := fun W t => start_yes (i := 0) W t.1 (by show 0 < 1; omega) (by show 1 ≤ 1048576; omega) low_pl rfl s 0 0 0 (by simp [isT]; omega)
  go_upto_region 6 with (first
    | (go_at_call 9; refine kn.mono ?_; rintro e w2 ⟨rfl, k2⟩; have H2 : Hid (Tn w w2 b g cap (T1 ⟨0, 1, per, lim, 0, false⟩)) := HT.out.keep k2; have st := ST.out w2 H2.out; clear k2 kn)
    | (go_at_call 10; refine st.mono ?_; rintro e w3 ⟨rfl, t3, k3⟩; have H3 : Hid (Tn w w3 b g cap (jU per lim s)) := H2.out.step t3 k3; clear t3 k3 st))
  clear HT ST H2
  go_upto_region 7 with fail
  have k4 : Kept No w3 (w3.alloc (.cells #[.int .i64 s, .int .i64 0, .bool false, .bool false, .bool false] 55)) := (Kept.refl No w3).alloc _
  have b4 := alloc_new w3 (.cells #[.int .i64 s, .int .i64 0, .bool false, .bool false, .bool false] 55)
  obtain ⟨q, hq⟩ : ∃ q, w3.heap.size = q := ⟨_, rfl⟩
  have hlow := H3.out.1.low
  have hsz := H3.out.2.1.size
  rw [hq] at b4 hlow hsz
  simp only [hq]
  clear hq
  have H4 : Hid (Jt w (w3.alloc (.cells #[.int .i64 s, .int .i64 0, .bool false, .bool false, .bool false] 55)) b g cap q (jU per lim s) ⟨s, 0, false, false, false⟩ s per lim 0) := ⟨H3.out.keep k4, b4, jU_jv hp hp2 hl hl2 hs hs2, rfl, rfl, rfl, (by decide : (1 : Int) ≤ 2), (by decide : (2 : Int) ≤ 2 + 0), (by decide : (0 : Int) ≤ 0), (by decide : (0 : Int) ≤ 0), hsz, by omega, by omega⟩
  clear k4 b4 H3 hlow hsz
  generalize (w3.alloc (.cells #[.int .i64 s, .int .i64 0, .bool false, .bool false, .bool false] 55)) = w4 at *
  go_wp2
  go_loopw [11, 12] (fun v11 v12 wr => ∃ (i : Nat) (T : Tt) (x : Xw) (t K : Int), v11 = .int .i64 t ∧ v12 = .int .i64 i ∧ i ≤ 100 ∧ Jt w wr b g cap q T x t per lim K ∧ s ≤ t ∧ t ≤ s + 90 * i ∧ 0 ≤ K ∧ K ≤ t - s + i) (fun _ v _ => 100 - (intOf v).toNat)
  case atStart => exact ⟨0, _, _, s, 0, rfl, rfl, by omega, H4.out, Int.le_refl _, by omega, by omega, by omega⟩
  case round =>
    obtain ⟨i, T, x, t, K, rfl, rfl, hi, hjt, ht0, ht1, hK0, hK1⟩ := hrel
    have HJT : Hid (Jt w wr b g cap q T x t per lim K) := hjt
    have HTB : Hid (s ≤ t ∧ t ≤ s + 90 * i ∧ 0 ≤ K ∧ K ≤ t - s + i) := ⟨ht0, ht1, hK0, hK1⟩
    clear hjt ht0 ht1 hK0 hK1
    by_cases hlt : i < sn ∧ i < 100
    · obtain ⟨hlt1, hlt2⟩ := hlt
      have hz1 : (i : Int) < (sn : Int) := by omega
      have hz2 : (i : Int) < 100 := by omega
      obtain ⟨jb, jo, rfl, _, e0, e1⟩ := HJ.out.at' i hlt1
      have e0' := HJT.out.tn.2.1.cell e0 (fun h => h)
      have e1' := HJT.out.tn.2.1.cell e1 (fun h => h)
      have HE : Hid (w.cell? ⟨jb, jo + i * 2 + 1, none⟩ = some (.bool (ds i))) := e1
      clear e0 e1 e1'
      have cl := clip_any (gs i) 1 90 wr
      obtain ⟨G, hG⟩ : ∃ G, clipV (gs i) 1 90 = G := ⟨_, rfl⟩
      have hG1 : 1 ≤ G ∧ G ≤ 90 := by
        rw [← hG]
        unfold clipV
        split
        · omega
        · split <;> omega
      rw [hG] at cl
      clear hG
      generalize gs i = gi at *
      go_upto_region 12 with (go_at_call 17; refine cl.mono ?_; rintro e w5 ⟨rfl, e5⟩; subst e5; clear cl)
      clear e0'
      obtain ⟨hG2, hG3⟩ := hG1
      go_loopw [11, 13, 14, 15, 16, 17, 18] (fun v11 v13 v14 v15 v16 v17 v18 wj => ∃ (T : Tt) (x : Xw) (t K gg : Int), v11 = .int .i64 t ∧ v13 = .int .i64 gg ∧ 0 ≤ gg ∧ gg ≤ 90 ∧ Jt w wj b g cap q T x t per lim K ∧ s ≤ t ∧ t + gg ≤ s + 90 * (i + 1) ∧ 0 ≤ K ∧ K ≤ t - s + i) (fun _ v _ _ _ _ _ _ => (intOf v).toNat)
      case atStart => exact ⟨T, x, t, K, G, rfl, rfl, by omega, by omega, HJT.out, HTB.out.1, by have := HTB.out.2.1; omega, HTB.out.2.2.1, HTB.out.2.2.2⟩
      case round =>
        obtain ⟨T2, x2, t2, K2, gg, rfl, rfl, hg0, hg1, hjt, hb0, hb1, hK0, hK1⟩ := hrel
        have HB : Hid (s ≤ t2 ∧ t2 + gg ≤ s + 90 * (i + 1) ∧ 0 ≤ K2 ∧ K2 ≤ t2 - s + i) := ⟨hb0, hb1, hK0, hK1⟩
        have HJ2 : Hid (Jt w wr b g cap q T2 x2 t2 per lim K2) := hjt
        by_cases hgp : 0 < gg
        · have u1 : t2 ≤ 600000000000 := by omega
          have u2 : 0 ≤ t2 := by omega
          have u3 : K2 ≤ 1000000 := by omega
          have nx := next_tw wr hjt.tn.1 (by rw [hjt.n1]; omega) t2
          rw [hjt.n1] at nx
          have tl := hjt.told hp hp2 u1 u2
          have FI : Hid (∀ W, Kept No wr W → Calls Try.prog 18 #[.pointer (some ⟨b, 0, none⟩), .int .i64 (t2 + 1)] W fun e w' => e = .returned (.tuple #[.bool (((T2.fm (t2 + 1)).ps 0).due 2 (t2 + 1)), .bool ((T2.ps 0).due 1 (t2 + 1))]) ∧ Tn w w' b g cap ((T2.fm (t2 + 1)).fr (t2 + 1)) ∧ Kept (Bg b g) W w') := fun W k => (hjt.keep k).fire u3 hp hp2 hl hl2 u1 u2
          have AT : Hid (∀ W W1, Kept No wr W → Tn w W1 b g cap ((T2.fm (t2 + 1)).fr (t2 + 1)) → Kept (Bg b g) W W1 → Calls Try.prog 19 #[.pointer (some ⟨q, 0, none⟩), .int .i64 (t2 + 1), .int .i64 per, .int .i64 lim] W1 fun e w' => (∃ v, e = .returned v) ∧ Jt w w' b g cap q ((T2.fm (t2 + 1)).fr (t2 + 1)) (x2.at (t2 + 1) per lim) (t2 + 1) per lim (K2 + 1)) := fun W W1 kW t1 k1 => at_j (hjt.keep kW) u3 hp hp2 hl hl2 u1 u2 t1 k1
          have hl3 : lim ≤ 200 := by omega
          have hnow : t2 + 1 ≤ 700000000000 := by omega
          clear hjt hb0 hb1 hK0 hK1
          generalize (T2.fm (t2 + 1)).fr (t2 + 1) = TT at *
          generalize x2.at (t2 + 1) per lim = XX at *
          generalize ((T2.fm (t2 + 1)).ps 0).due 2 (t2 + 1) = rb at *
          generalize (T2.ps 0).due 1 (t2 + 1) = mb at *
          generalize nout t2 T2.ps 1 = NN at *
          go_upto_region 20 with (first
            | (go_at_call 13; refine nx.mono ?_; rintro e w6 ⟨rfl, k6⟩; have K6 : Hid (Kept No wr w6) := k6; have fi := FI.out w6 k6; clear k6 nx)
            | (go_at_call 18; refine fi.mono ?_; rintro e w7 ⟨rfl, t7, k7⟩; have at7 := AT.out w6 w7 K6.out t7 k7; clear t7 k7 fi)
            | (go_at_call 19; refine at7.mono ?_; rintro e w8 ⟨⟨v8, rfl⟩, j8⟩; have H8 : Hid (Jt w w8 b g cap q TT XX (t2 + 1) per lim (K2 + 1)) := j8; clear j8 at7))
          all_goals
            have gz := get_j H8.out
            refine wp_region_lit ?_
            go_step
            go_step
            go_step
            go_step
            go_step
            refine gz.mono ?_
            rintro e9 w9 ⟨A, rfl, ga, k9⟩
            clear gz
            dsimp only
            have ez : (w9.alloc (.cells #[.int .i64 0, .int .i64 0, .int .i64 0, .int .i64 0, .int .i64 0, .int .i64 0, .int .i64 0, .int .i64 0, .int .i64 0, .int .i64 0, .int .i64 0, .int .i64 0, .int .i64 0, .int .i64 0, .int .i64 0, .int .i64 0, .int .i64 0, .int .i64 0, .int .i64 0, .int .i64 0, .int .i64 0, .int .i64 0, .int .i64 0, .bool false, .int .i64 0, .int .i64 0, .slice none 0 0, .int .i64 0] 48)) = w9.alloc (.cells Z28 48) := rfl
            go_step
            go_step
            go_step
            go_step
            go_step
            go_step
            go_step
            go_step
            go_step
            go_step
            go_step
            go_step
            go_step
            clear ez
            have b10 := alloc_new w9 (.cells Z28 48)
            refine wpList_store_row rfl 48 (.tmp 17) (.tmp 115) rfl w9.heap.size A rfl rfl _ Z28 b10 (by rw [ga.1]; exact Try.info48) (by rw [ga.1]; rfl) ga.2.1 ?_
            simp only [Act.put]
            have h11 := setRow_heap _ w9.heap.size Z28 A 48 (0, 0) b10
            have k11 : Kept No w9 ((w9.alloc (.cells Z28 48)).setRow w9.heap.size A) := ((Kept.refl No w9).alloc _).setRow (.inr (Nat.le_refl _)) _
            have H11 : Hid (Jt w ((w9.alloc (.cells Z28 48)).setRow w9.heap.size A) b g cap q TT XX (t2 + 1) per lim (K2 + 1) ∧ ((w9.alloc (.cells Z28 48)).setRow w9.heap.size A).heap[w9.heap.size]? = some (.cells A 48) ∧ GJ A (TT.ps 0)) := ⟨(H8.out.keep k9).keep k11, h11, ga⟩
            clear k9 b10 ga h11 k11 H8
            generalize ((w9.alloc (.cells Z28 48)).setRow w9.heap.size A) = w11 at *
            go_upto_region 21 with fail
            have ft := fit_j H11.out.1 H11.out.2.2 hl hl3 hnow
            refine wp_region_lit ?_
            go_step
            go_step
            go_step
            refine wpList_load_row rfl 48 (.tmp 17) rfl w9.heap.size rfl _ A (0, 0) _ H11.out.2.1 Try.underlying48 rfl (by rw [H11.out.2.2.1]; exact Try.info48) ?_
            simp only [Act.put, List.setIfInBounds_toArray, List.set_cons_zero, List.set_cons_succ]
            go_wp2_with (go_at_call 20; refine ft.mono ?_; rintro e w12 ⟨rfl, k12⟩; have H12 : Hid (Jt w w12 b g cap q TT XX (t2 + 1) per lim (K2 + 1)) := H11.out.1.keep k12; clear k12 ft)
            go_roundw
            case rel => exact ⟨TT, XX, t2 + 1, K2 + 1, gg - 1, by go_num, by go_num, by omega, by omega, H12.out, by have := HB.out; omega, by have := HB.out; omega, by have := HB.out; omega, by have := HB.out; omega⟩
            case measure => simp [intOf]; omega
        · have hgz : gg = 0 := by omega
          have u1 : t2 ≤ 600000000000 := by omega
          have u2 : 0 ≤ t2 := by omega
          have u3 : K2 ≤ 1000000 := by omega
          have e1 := hjt.tn.2.1.cell HE.out (fun h => h)
          have PK : Hid (∀ W, Kept No wr W → Calls Try.prog 21 #[.pointer (some ⟨b, 0, none⟩), .int .i64 1, .int .i64 t2] W fun e w' => e = .returned (.bool (!x2.done)) ∧ w'.heap[q]? = some (.cells x2.cells 55) ∧ Nx w b g cap q x2 t2 per lim K2 w') := fun W k => per_k (hjt.keep k) u3 hp hp2 u1 u2
          have hqr := hjt.hq
          obtain ⟨c0, c1, c2, c3, c4⟩ := bx5 (show wr.heap[q]? = some (.cells #[.int .i64 x2.rel, .int .i64 x2.mis, .bool x2.done, .bool x2.late, .bool x2.over] _) from hqr)
          clear hjt hb0 hb1 hK0 hK1 c0 c1 c3 c4 hqr hgz
          generalize ds i = di at *
          cases di with
          | false =>
            clear PK c2
            go_wp2
            go_roundw
            case rel => exact ⟨i + 1, T2, x2, t2, K2, rfl, by go_num, by omega, HJ2.out, HB.out.1, by have := HB.out; omega, HB.out.2.2.1, by have := HB.out; omega⟩
            case measure => simp [intOf]; omega
          | true =>
            go_upto_region 24 with fail
            clear e1
            have HD : Hid (x2.cells = #[.int .i64 x2.rel, .int .i64 x2.mis, .bool x2.done, .bool x2.late, .bool x2.over]) := rfl
            go_region_with (go_at_call 21; refine (PK.out _ (by first | exact Kept.refl No _ | exact (Kept.refl No _).drew)).mono ?_; rintro e w13 ⟨rfl, q13, n13⟩; have H13 : Hid (w13.heap[q]? = some (.cells #[.int .i64 x2.rel, .int .i64 x2.mis, .bool x2.done, .bool x2.late, .bool x2.over] 55) ∧ Nx w b g cap q x2 t2 per lim K2 w13) := ⟨q13, n13⟩; have c13 := (bx5 H13.out.1).2.2.1; have f13 := fzc H13.out.1 2; clear q13 n13)
            all_goals
              have nn : ((!x2.done) != (!x2.done)) = false := by simp
              go_wp2
              go_roundw
              case rel =>
                obtain ⟨T3, h3⟩ := H13.out.2
                refine ⟨i + 1, T3, { x2 with done := true }, t2, K2 + 1, rfl, by go_num, by omega, ?_, HB.out.1, by have := HB.out; omega, by have := HB.out; omega, by have := HB.out; omega⟩
                first
                  | exact h3 _ (setC 2 _ H13.out.1) ((Kept.refl (fun k => k = q) w13).setCell (p := ⟨q, 2, none⟩) (.inl rfl) _)
                  | exact (h3 _ (setC 2 _ H13.out.1) ((Kept.refl (fun k => k = q) w13).setCell (p := ⟨q, 2, none⟩) (.inl rfl) _)).keep ((Kept.refl No _).drew)
                  | exact h3 _ (setC 2 _ ((Kept.refl No w13).drew.at' H13.out.1 (fun h => h))) ((Kept.refl (fun k => k = q) w13).drew.setCell (p := ⟨q, 2, none⟩) (.inl rfl) _)
              case measure => simp [intOf]; omega
    · by_cases h5 : i < sn
      · have h6 : ¬ (i : Int) < 100 := by omega
        have h7 : (i : Int) < (sn : Int) := by omega
        go_wp2
        go_ret
        exact ⟨rfl, HJT.out.tn.2.1.below0⟩
      · have h7 : ¬ (i : Int) < (sn : Int) := by omega
        go_wp2
        go_ret
        exact ⟨rfl, HJT.out.tn.2.1.below0⟩
end Go.Proofs.Ytofkacfchkimiaa
