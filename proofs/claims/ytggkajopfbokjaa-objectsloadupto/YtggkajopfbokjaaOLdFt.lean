/-
  ObjectsLoad: the walk.
-/
import Derived.Test.YtggkajopfbokjaaOLdQ
namespace Go.Proofs.Ytggkajopfbokjaa
open Go.RowKit
set_option linter.unusedVariables false
set_option maxRecDepth 100000

set_option maxHeartbeats 16000000 in
theorem load_lawFt {F : Nat → Prop} {A : Array Value} {sa ea ba : Option Addr} {n sc ne ec nb bc : Nat} {p q1 p' q' : Nat → Int} {us0 : List Value} {f0 : Nat → Bool} {ts te tb : Value} {cs : List Int} {us lvs : List Value} {mss : List (List Value)} {xss : List (List (List Int))} {f : Nat → Bool} (w : World) (hFw : ∀ k, F k → k < w.heap.size) (hg : Lg w F A sa ea ba n sc ne ec nb bc p q1 p' q' us0 f0 ts te tb cs us lvs mss xss f) (H1 : Hid (¬ okL n ne nb q1 p' q' cs us lvs xss)) (H2 : Hid (okL n ne nb q1 p' q' (List.replicate cs.length (-9)) (evK f us.length us.length) (List.replicate lvs.length (.slice none 0 0)) (List.replicate lvs.length []))) :
    Calls Try.prog 4 #[.agg A, .agg #[ts, te, tb]] w fun r w' => r = .returned (.bool true) ∧ Kept No w w' := by
  obtain ⟨ta, tc, hts, zts⟩ := hg.ho.sems
  obtain ⟨va, vc, hte, zte⟩ := hg.ho.evs
  obtain ⟨la, lc, htb, ztb⟩ := hg.ho.bufs
  subst hts hte htb
  have HG := hid hg
  have HFW := hid hFw
  clear hFw
  clear hg zts zte ztb
  go_enter Try.func4, Try.ntmps4
  go_upto_region 1 with fail
  have H0 : Hid ((Lg ((w.alloc (.cells A 37)).alloc (.cells #[.slice ta cs.length tc, .slice va us.length vc, .slice la lvs.length lc] 55)) F A sa ea ba n sc ne ec nb bc p q1 p' q' us0 f0 (.slice ta cs.length tc) (.slice va us.length vc) (.slice la lvs.length lc) cs us lvs mss xss f) ∧ ((w.alloc (.cells A 37)).alloc (.cells #[.slice ta cs.length tc, .slice va us.length vc, .slice la lvs.length lc] 55)).heap[w.heap.size]? = some (.cells A 37) ∧ ((w.alloc (.cells A 37)).alloc (.cells #[.slice ta cs.length tc, .slice va us.length vc, .slice la lvs.length lc] 55)).heap[w.heap.size + 1]? = some (.cells #[.slice ta cs.length tc, .slice va us.length vc, .slice la lvs.length lc] 55) ∧ Kept No w ((w.alloc (.cells A 37)).alloc (.cells #[.slice ta cs.length tc, .slice va us.length vc, .slice la lvs.length lc] 55))) := by
    have k1 : Kept No w (w.alloc (.cells A 37)) := (Kept.refl No w).alloc _
    have k2 : Kept No (w.alloc (.cells A 37)) ((w.alloc (.cells A 37)).alloc (.cells #[.slice ta cs.length tc, .slice va us.length vc, .slice la lvs.length lc] 55)) := (Kept.refl No _).alloc _
    have b2 := alloc_new (w.alloc (.cells A 37)) (.cells #[.slice ta cs.length tc, .slice va us.length vc, .slice la lvs.length lc] 55)
    rw [World.size_alloc] at b2
    exact ⟨HG.out.keep (k1.trans k2 (fun _ e => e.elim)), k2.at' (alloc_new w _) (fun e => e), b2, k1.trans k2 (fun _ e => e.elim)⟩
  clear HG
  generalize ((w.alloc (.cells A 37)).alloc (.cells #[.slice ta cs.length tc, .slice va us.length vc, .slice la lvs.length lc] 55)) = w0 at *
  generalize w.heap.size + 1 = b1 at *
  generalize w.heap.size = b0 at *
  have hg := H0.out.1
  have SH := hid (short_any w0 hg.hA hg.h18 hg.h19 hg.h20 hg.hb)
  clear hg
  refine wp_region_lit ?_
  refine l_take 16 rfl rfl (er_ldP _ rfl b0 A rfl H0.out.2.1 H0.out.1.hA) ?_
  simp only [Act.put, List.setIfInBounds_toArray, List.set_cons_zero, List.set_cons_succ]
  refine l_call 17 rfl rfl (ec_short _ _ rfl (.agg A) rfl) SH.out ?_
  clear SH
  have d0 : w0.cell? ⟨b1, 0, none⟩ = some (.slice ta cs.length tc) := (cell_blk H0.out.2.2.1 0).trans rfl
  have d1 : w0.cell? ⟨b1, 1, none⟩ = some (.slice va us.length vc) := (cell_blk H0.out.2.2.1 1).trans rfl
  have d2 : w0.cell? ⟨b1, 2, none⟩ = some (.slice la lvs.length lc) := (cell_blk H0.out.2.2.1 2).trans rfl
  rintro e w1 (⟨rfl, k1, hn, hne, hnb, hqq⟩ | ⟨rfl, k1⟩)
  · refine ⟨_, rfl, ?_⟩
    simp only [Act.put, List.setIfInBounds_toArray, List.set_cons_zero, List.set_cons_succ]
    have d0 := k1.cell d0 (fun e => e)
    have d1 := k1.cell d1 (fun e => e)
    have d2 := k1.cell d2 (fun e => e)
    have H1 : Hid ((Lg w1 F A sa ea ba n sc ne ec nb bc p q1 p' q' us0 f0 (.slice ta cs.length tc) (.slice va us.length vc) (.slice la lvs.length lc) cs us lvs mss xss f) ∧ w1.heap[b0]? = some (.cells A 37) ∧ w1.heap[b1]? = some (.cells #[.slice ta cs.length tc, .slice va us.length vc, .slice la lvs.length lc] 55) ∧ Kept No w w1) := ⟨H0.out.1.keep k1, k1.at' H0.out.2.1 (fun e => e), k1.at' H0.out.2.2.1 (fun e => e), H0.out.2.2.2.trans k1 (fun _ e => e.elim)⟩
    clear H0 k1 hqq
    by_cases q1' : 300 < (cs.length : Int)
    · go_wp2
      go_ret
      exact ⟨rfl, H1.out.2.2.2⟩
    · by_cases q2' : 300 < (us.length : Int)
      · go_wp2
        go_ret
        exact ⟨rfl, H1.out.2.2.2⟩
      · by_cases q3' : 300 < (lvs.length : Int)
        · go_wp2
          go_ret
          exact ⟨rfl, H1.out.2.2.2⟩
        · go_upto_region 3 with fail
          clear d0 d1 d2
          have hc3 : cs.length ≤ 300 := by omega
          have hu3 : us.length ≤ 300 := by omega
          have hl3 : lvs.length ≤ 300 := by omega
          clear q1' q2' q3'
          have one : ∀ u ∈ us, u.oneCell' = true := fun u hu => by
            obtain ⟨i, hi, e⟩ := List.mem_iff_getElem.1 hu
            have h1 := H1.out.1.hf i hi
            rw [List.getElem?_eq_getElem hi, e] at h1
            injection h1 with h1
            subst h1
            rfl
          have hxl := hid (show xss.length = lvs.length from H1.out.1.ho.len2)
          have OW := hid (own_any w1 H1.out.1.ho (by omega) (by omega) (by omega) one (fun xs hxs => ⟨(H1.out.1.hx xs hxs).1, fun x hxx => by have := (H1.out.1.hx xs hxs).2 x hxx; omega⟩))
          refine wp_region_lit ?_
          refine l_take 37 rfl rfl (er_ldO _ rfl b1 #[.slice ta cs.length tc, .slice va us.length vc, .slice la lvs.length lc] rfl H1.out.2.2.1 rfl) ?_
          simp only [Act.put, List.setIfInBounds_toArray, List.set_cons_zero, List.set_cons_succ]
          refine l_call 38 rfl rfl (ec_own _ _ rfl (.agg #[.slice ta cs.length tc, .slice va us.length vc, .slice la lvs.length lc]) rfl) OW.out ?_
          clear OW
          rintro e w2 ⟨ts2, te2, tb2, rfl, ow2⟩
          refine ⟨_, rfl, ?_⟩
          simp only [Act.put, List.setIfInBounds_toArray, List.set_cons_zero, List.set_cons_succ]
          obtain ⟨lvs2, mss2, hl2, or2⟩ := ow2.or
          have k2 : Kept No w1 w2 := by obtain ⟨_, _, _, _, _, k⟩ := ow2; exact k
          have RO := hid (roomy_any w2 or2 (by omega) (by omega) (by rw [hl2, hxl.out]; omega) one H1.out.1.hx)
          refine l_call 39 rfl rfl (ec_roomy _ _ rfl (.agg #[ts2, te2, tb2]) rfl) RO.out ?_
          clear RO
          rintro e w3 ⟨ts3, te3, tb3, lv3, ms3, hb3, rfl, r1, r2, r3, l3, ent3, l4, k3⟩
          refine ⟨_, rfl, ?_⟩
          simp only [Act.put, List.setIfInBounds_toArray, List.set_cons_zero, List.set_cons_succ]
          have rm3 : Rm w3 w2.heap.size ts3 te3 tb3 cs us lv3 ms3 xss hb3 := ⟨r1, r2, by rw [l3]; exact r3, by rw [l4, l3], by rw [l3, hl2], ent3⟩
          obtain ⟨z1, y1, e1, _⟩ := r1
          obtain ⟨z2, y2, e2, _⟩ := r2
          obtain ⟨z3, y3, e3, _⟩ := r3
          subst e1 e2 e3
          have hlv3 := hid (show lv3.length = lvs.length by rw [l3, hl2, hxl.out])
          rw [show lvs2.length = lv3.length from l3.symm] at rm3
          have H3 : Hid (Mi (w3.alloc (.cells #[.slice (some ⟨z1, 0, none⟩) cs.length y1, .slice (some ⟨z2, 0, none⟩) us.length y2, .slice (some ⟨z3, 0, none⟩) lv3.length y3] 55)) w2.heap.size w3.heap.size w3.heap.size (.slice (some ⟨z1, 0, none⟩) cs.length y1) (.slice (some ⟨z2, 0, none⟩) us.length y2) (.slice (some ⟨z3, 0, none⟩) lv3.length y3) cs us lv3 ms3 xss hb3 ∧ (Lg (w3.alloc (.cells #[.slice (some ⟨z1, 0, none⟩) cs.length y1, .slice (some ⟨z2, 0, none⟩) us.length y2, .slice (some ⟨z3, 0, none⟩) lv3.length y3] 55)) F A sa ea ba n sc ne ec nb bc p q1 p' q' us0 f0 (.slice ta cs.length tc) (.slice va us.length vc) (.slice la lvs.length lc) cs us lvs mss xss f) ∧ (w3.alloc (.cells #[.slice (some ⟨z1, 0, none⟩) cs.length y1, .slice (some ⟨z2, 0, none⟩) us.length y2, .slice (some ⟨z3, 0, none⟩) lv3.length y3] 55)).heap[b0]? = some (.cells A 37) ∧ (w3.alloc (.cells #[.slice (some ⟨z1, 0, none⟩) cs.length y1, .slice (some ⟨z2, 0, none⟩) us.length y2, .slice (some ⟨z3, 0, none⟩) lv3.length y3] 55)).heap[b1]? = some (.cells #[.slice ta cs.length tc, .slice va us.length vc, .slice la lvs.length lc] 55) ∧ Kept No w (w3.alloc (.cells #[.slice (some ⟨z1, 0, none⟩) cs.length y1, .slice (some ⟨z2, 0, none⟩) us.length y2, .slice (some ⟨z3, 0, none⟩) lv3.length y3] 55)) ∧ (w.heap.size ≤ w2.heap.size ∧ b0 < w2.heap.size ∧ b1 < w2.heap.size)) := by
            have kk : Kept No w1 (w3.alloc (.cells #[.slice (some ⟨z1, 0, none⟩) cs.length y1, .slice (some ⟨z2, 0, none⟩) us.length y2, .slice (some ⟨z3, 0, none⟩) lv3.length y3] 55)) := (k2.trans k3 (fun _ e => e.elim)).alloc _
            exact ⟨Mi.start rm3, H1.out.1.keep kk, kk.at' H1.out.2.1 (fun e => e), kk.at' H1.out.2.2.1 (fun e => e), H1.out.2.2.2.trans kk (fun _ e => e.elim), (H1.out.2.2.2.trans k2 (fun _ e => e.elim)).size, Nat.lt_of_lt_of_le (heap_lt H1.out.2.1) k2.size, Nat.lt_of_lt_of_le (heap_lt H1.out.2.2.1) k2.size⟩
          rw [show lvs2.length = lv3.length from l3.symm]
          clear H1 ow2 or2 k2 k3 ent3 rm3 l4 l3 hl2
          go_upto_region 4 with fail
          generalize (w3.alloc (.cells #[.slice (some ⟨z1, 0, none⟩) cs.length y1, .slice (some ⟨z2, 0, none⟩) us.length y2, .slice (some ⟨z3, 0, none⟩) lv3.length y3] 55)) = w4 at *
          generalize w3.heap.size = m5 at *
          generalize w2.heap.size = B2 at *
          have hg4 := H3.out.2.1
          have one0 : ∀ u ∈ us0, u.oneCell' = true := fun u hu => by
            obtain ⟨i, hi, e⟩ := List.mem_iff_getElem.1 hu
            have h1 := hg4.hf0 i (by rw [← hg4.he.len]; exact hi)
            rw [List.getElem?_eq_getElem hi, e] at h1
            injection h1 with h1
            subst h1
            rfl
          have GI := hid (given_any w4 hg4.hA hg4.hA1 hg4.h18 hg4.h19 hg4.h20 hg4.hs hg4.hsn hg4.he one0 hg4.hb hg4.hbn (by omega) (by omega) (by omega))
          clear hg4
          refine wp_region_lit ?_
          refine l_take 40 rfl rfl (er_ldP _ rfl b0 A rfl H3.out.2.2.1 H3.out.2.1.hA) ?_
          simp only [Act.put, List.setIfInBounds_toArray, List.set_cons_zero, List.set_cons_succ]
          refine l_call 41 rfl rfl (ec_given _ _ rfl (.agg A) rfl) GI.out ?_
          clear GI
          rintro e w5 ⟨v1, v2, v3, rfl, g1r, g2r, g3r, k5⟩
          refine ⟨_, rfl, ?_⟩
          simp only [Act.put, List.setIfInBounds_toArray, List.set_cons_zero, List.set_cons_succ]
          obtain ⟨Aq, hAq⟩ : ∃ Aq, Aq = (((A.setIfInBounds 18 v1).setIfInBounds 19 v2).setIfInBounds 20 v3) := ⟨_, rfl⟩
          rw [← hAq]
          have hAs : Aq.size = 21 := by rw [hAq]; simp [H3.out.2.1.hA]
          have hsz := H3.out.2.1.hA
          have a18 : Aq[18]? = some v1 := by rw [hAq, Array.getElem?_setIfInBounds_ne (by omega), Array.getElem?_setIfInBounds_ne (by omega), Array.getElem?_setIfInBounds_self_of_lt (by omega)]
          have a19 : Aq[19]? = some v2 := by rw [hAq, Array.getElem?_setIfInBounds_ne (by omega), Array.getElem?_setIfInBounds_self_of_lt (by rw [Array.size_setIfInBounds]; omega)]
          have a20 : Aq[20]? = some v3 := by rw [hAq, Array.getElem?_setIfInBounds_self_of_lt (by rw [Array.size_setIfInBounds, Array.size_setIfInBounds]; omega)]
          have hA1 := H3.out.2.1.hA1
          have hone : Aq.all (·.oneCell') = true := by
            rw [Array.all_eq_true]
            rw [Array.all_eq_true] at hA1
            intro i hi
            have hi' : i < A.size := by omega
            have hv : ∀ {v : Value} {t k m : Nat} {xs mk : List Value}, Rw w5 w4.heap.size t k v m xs mk → v.oneCell' = true := fun h => by obtain ⟨g, c, rfl, _⟩ := h; rfl
            by_cases i18 : i = 18
            · subst i18
              have := a18
              rw [Array.getElem?_eq_getElem hi] at this
              injection this with this
              rw [this]; exact hv g1r
            · by_cases i19 : i = 19
              · subst i19
                have := a19
                rw [Array.getElem?_eq_getElem hi] at this
                injection this with this
                rw [this]; exact hv g2r
              · by_cases i20 : i = 20
                · subst i20
                  have := a20
                  rw [Array.getElem?_eq_getElem hi] at this
                  injection this with this
                  rw [this]; exact hv g3r
                · have h1 : Aq[i]? = A[i]? := by rw [hAq, Array.getElem?_setIfInBounds_ne (by omega), Array.getElem?_setIfInBounds_ne (by omega), Array.getElem?_setIfInBounds_ne (by omega)]
                  rw [Array.getElem?_eq_getElem hi, Array.getElem?_eq_getElem hi'] at h1
                  injection h1 with h1
                  rw [h1]; exact hA1 i hi'
          clear hAq hA1 hsz
          refine l_make 6 rfl rfl (er_alloc rfl) ?_
          simp only [Act.put, List.setIfInBounds_toArray, List.set_cons_zero, List.set_cons_succ]
          refine wpList_store_row rfl 37 (.tmp 6) (.tmp 41) rfl w5.heap.size Aq rfl rfl _ Z21 (alloc_new w5 _) (by rw [hAs]; exact Try.infoPart) (by rw [hAs]; rfl) hone ?_
          simp only [Act.put]
          obtain ⟨g1, c1, e1, _⟩ := id g1r
          obtain ⟨g2, c2, e2, _⟩ := id g2r
          obtain ⟨g3, c3, e3, _⟩ := id g3r
          subst e1 e2 e3
          have H5 : Hid (Pq ((w5.alloc (.cells Z21 37)).setRow w5.heap.size Aq) w4.heap.size w5.heap.size Aq g1 g2 g3 n ne nb c1 c2 c3 p q1 p' q' us0 ∧ (Mi ((w5.alloc (.cells Z21 37)).setRow w5.heap.size Aq) B2 m5 m5 (.slice (some ⟨z1, 0, none⟩) cs.length y1) (.slice (some ⟨z2, 0, none⟩) us.length y2) (.slice (some ⟨z3, 0, none⟩) lv3.length y3) cs us lv3 ms3 xss hb3) ∧ (Lg ((w5.alloc (.cells Z21 37)).setRow w5.heap.size Aq) F A sa ea ba n sc ne ec nb bc p q1 p' q' us0 f0 (.slice ta cs.length tc) (.slice va us.length vc) (.slice la lvs.length lc) cs us lvs mss xss f) ∧ ((w5.alloc (.cells Z21 37)).setRow w5.heap.size Aq).heap[b0]? = some (.cells A 37) ∧ ((w5.alloc (.cells Z21 37)).setRow w5.heap.size Aq).heap[b1]? = some (.cells #[.slice ta cs.length tc, .slice va us.length vc, .slice la lvs.length lc] 55) ∧ Kept No w ((w5.alloc (.cells Z21 37)).setRow w5.heap.size Aq) ∧ (w.heap.size ≤ B2 ∧ b0 < B2 ∧ b1 < B2) ∧ m5 < w4.heap.size ∧ w4.heap.size ≤ w5.heap.size) := by
            have ka : Kept No w5 (w5.alloc (.cells Z21 37)) := (Kept.refl No w5).alloc _
            have ks : Kept (fun k => k = w5.heap.size) (w5.alloc (.cells Z21 37)) ((w5.alloc (.cells Z21 37)).setRow w5.heap.size Aq) := setRow_kept _ _ _
            have kk : Kept No w5 ((w5.alloc (.cells Z21 37)).setRow w5.heap.size Aq) := (ka.mono (fun _ e => e)).trans ks (fun k e => .inr (by rw [e]; exact Nat.le_refl _))
            have k4 : Kept No w4 ((w5.alloc (.cells Z21 37)).setRow w5.heap.size Aq) := k5.trans kk (fun _ e => e.elim)
            refine ⟨⟨setRow_heap _ w5.heap.size Z21 Aq 37 (0, 0) (alloc_new w5 (.cells Z21 37)), hAs, a18, a19, a20, g1r.kept kk (fun _ _ e => e), g2r.kept kk (fun _ _ e => e), g3r.kept kk (fun _ _ e => e)⟩, H3.out.1.keep k4, H3.out.2.1.keep k4, k4.at' H3.out.2.2.1 (fun e => e), k4.at' H3.out.2.2.2.1 (fun e => e), H3.out.2.2.2.2.1.trans k4 (fun _ e => e.elim), H3.out.2.2.2.2.2, heap_lt H3.out.1.bx, k5.size⟩
          clear H3 g1r g2r g3r k5 a18 a19 a20 hone hAs
          generalize ((w5.alloc (.cells Z21 37)).setRow w5.heap.size Aq) = w6 at *
          generalize w5.heap.size = m6 at *
          generalize w4.heap.size = B4 at *
          go_upto_region 5 with fail
          by_cases hok1 : okL n ne nb q1 p' q' cs us lvs xss
          · have HOK1 := hid hok1
            clear hok1
            as_aux_lemma =>
              exact absurd HOK1.out H1.out
          · have HOK1 := hid hok1
            clear hok1
            as_aux_lemma =>
              have hl0 : us0.length = ne := H5.out.2.2.1.he.len
              have LD := hid (H5.out.1.load (f := f) hl0 H5.out.2.2.1.hf0 hn hne hnb H5.out.2.1.rm.or H5.out.2.2.1.hf H5.out.2.2.1.hx)
              have HL0 := hid hl0
              clear hl0
              refine wp_region_lit ?_
              refine l_take 43 rfl rfl (er_ldP _ rfl m6 Aq rfl H5.out.1.bx H5.out.1.hA) ?_
              simp only [Act.put, List.setIfInBounds_toArray, List.set_cons_zero, List.set_cons_succ]
              refine l_take 44 rfl rfl (er_ldO _ rfl m5 #[.slice (some ⟨z1, 0, none⟩) cs.length y1, .slice (some ⟨z2, 0, none⟩) us.length y2, .slice (some ⟨z3, 0, none⟩) lv3.length y3] rfl H5.out.2.1.bx rfl) ?_
              simp only [Act.put, List.setIfInBounds_toArray, List.set_cons_zero, List.set_cons_succ]
              refine l_call 45 rfl rfl (ec_load _ _ _ _ rfl (.agg Aq) (.agg #[.slice (some ⟨z1, 0, none⟩) cs.length y1, .slice (some ⟨z2, 0, none⟩) us.length y2, .slice (some ⟨z3, 0, none⟩) lv3.length y3]) rfl rfl) LD.out ?_
              clear LD
              rintro e w7 hr7
              have hr7' := hr7.resolve_left (fun hyes => HOK1.out ((okL_lvs hlv3.out).1 hyes.1))
              clear hr7
              obtain ⟨_, rfl, k7⟩ := hr7'
              refine ⟨_, rfl, ?_⟩
              simp only [Act.put, List.setIfInBounds_toArray, List.set_cons_zero, List.set_cons_succ]
              have H7 : Hid (True ∧ (Pq w7 B4 m6 Aq g1 g2 g3 n ne nb c1 c2 c3 p q1 p' q' us0) ∧ (Mi w7 B2 m5 m5 (.slice (some ⟨z1, 0, none⟩) cs.length y1) (.slice (some ⟨z2, 0, none⟩) us.length y2) (.slice (some ⟨z3, 0, none⟩) lv3.length y3) cs us lv3 ms3 xss hb3) ∧ (Lg w7 F A sa ea ba n sc ne ec nb bc p q1 p' q' us0 f0 (.slice ta cs.length tc) (.slice va us.length vc) (.slice la lvs.length lc) cs us lvs mss xss f) ∧ w7.heap[b0]? = some (.cells A 37) ∧ w7.heap[b1]? = some (.cells #[.slice ta cs.length tc, .slice va us.length vc, .slice la lvs.length lc] 55) ∧ Kept No w w7 ∧ (w.heap.size ≤ B2 ∧ b0 < B2 ∧ b1 < B2) ∧ m5 < B4 ∧ B4 ≤ m6 ∧ True) := ⟨trivial, H5.out.1.keep k7, H5.out.2.1.keep k7, H5.out.2.2.1.keep k7, k7.at' H5.out.2.2.2.1 (fun e => e), k7.at' H5.out.2.2.2.2.1 (fun e => e), H5.out.2.2.2.2.2.1.trans k7 (fun _ e => e.elim), H5.out.2.2.2.2.2.2.1, H5.out.2.2.2.2.2.2.2.1, H5.out.2.2.2.2.2.2.2.2, trivial⟩
              clear k7
              clear H5
              go_upto_region 6 with fail
              have hg7 := H7.out.2.2.2.1
              have RL := hid (rload_any w7 hg7.hA hg7.h18 hg7.h19 hg7.h20 hg7.hs hg7.hb (by omega) (by omega) (by omega) hg7.ho one (fun xs hxs => ⟨(hg7.hx xs hxs).1, fun x hxx => by have := (hg7.hx xs hxs).2 x hxx; omega⟩))
              clear hg7
              refine wp_region_lit ?_
              refine l_take 49 rfl rfl (er_ldP _ rfl b0 A rfl H7.out.2.2.2.2.1 H7.out.2.2.2.1.hA) ?_
              simp only [Act.put, List.setIfInBounds_toArray, List.set_cons_zero, List.set_cons_succ]
              refine l_take 50 rfl rfl (er_ldO _ rfl b1 #[.slice ta cs.length tc, .slice va us.length vc, .slice la lvs.length lc] rfl H7.out.2.2.2.2.2.1 rfl) ?_
              simp only [Act.put, List.setIfInBounds_toArray, List.set_cons_zero, List.set_cons_succ]
              refine l_call 51 rfl rfl (ec_rload _ _ _ _ rfl (.agg A) (.agg #[.slice ta cs.length tc, .slice va us.length vc, .slice la lvs.length lc]) rfl rfl) RL.out ?_
              clear RL
              rintro e w8 hr8
              have hr8' := hr8.resolve_left (fun hyes => HOK1.out hyes.1)
              clear hr8
              obtain ⟨_, rfl, k8⟩ := hr8'
              refine ⟨_, rfl, ?_⟩
              simp only [Act.put, List.setIfInBounds_toArray, List.set_cons_zero, List.set_cons_succ]
              have H8 : Hid (True ∧ (Pq (w8.alloc (.cells #[.slice none 0 0, .slice none 0 0, .slice none 0 0] 55)) B4 m6 Aq g1 g2 g3 n ne nb c1 c2 c3 p q1 p' q' us0) ∧ (Mi (w8.alloc (.cells #[.slice none 0 0, .slice none 0 0, .slice none 0 0] 55)) B2 m5 m5 (.slice (some ⟨z1, 0, none⟩) cs.length y1) (.slice (some ⟨z2, 0, none⟩) us.length y2) (.slice (some ⟨z3, 0, none⟩) lv3.length y3) cs us lv3 ms3 xss hb3) ∧ (Lg (w8.alloc (.cells #[.slice none 0 0, .slice none 0 0, .slice none 0 0] 55)) F A sa ea ba n sc ne ec nb bc p q1 p' q' us0 f0 (.slice ta cs.length tc) (.slice va us.length vc) (.slice la lvs.length lc) cs us lvs mss xss f) ∧ (w8.alloc (.cells #[.slice none 0 0, .slice none 0 0, .slice none 0 0] 55)).heap[b0]? = some (.cells A 37) ∧ (w8.alloc (.cells #[.slice none 0 0, .slice none 0 0, .slice none 0 0] 55)).heap[b1]? = some (.cells #[.slice ta cs.length tc, .slice va us.length vc, .slice la lvs.length lc] 55) ∧ (w8.alloc (.cells #[.slice none 0 0, .slice none 0 0, .slice none 0 0] 55)).heap[w8.heap.size]? = some (.cells #[.slice none 0 0, .slice none 0 0, .slice none 0 0] 55) ∧ Kept No w (w8.alloc (.cells #[.slice none 0 0, .slice none 0 0, .slice none 0 0] 55)) ∧ (w.heap.size ≤ B2 ∧ b0 < B2 ∧ b1 < B2) ∧ m5 < B4 ∧ (B4 ≤ m6 ∧ m5 < w8.heap.size)) := by
                have kk : Kept No w7 (w8.alloc (.cells #[.slice none 0 0, .slice none 0 0, .slice none 0 0] 55)) := k8.alloc _
                exact ⟨trivial, H7.out.2.1.keep kk, H7.out.2.2.1.keep kk, H7.out.2.2.2.1.keep kk, kk.at' H7.out.2.2.2.2.1 (fun e => e), kk.at' H7.out.2.2.2.2.2.1 (fun e => e), alloc_new w8 _, H7.out.2.2.2.2.2.2.1.trans kk (fun _ e => e.elim), H7.out.2.2.2.2.2.2.2.1, H7.out.2.2.2.2.2.2.2.2.1, H7.out.2.2.2.2.2.2.2.2.2.1, Nat.lt_of_lt_of_le (heap_lt H7.out.2.2.1.bx) k8.size⟩
              clear H7 k8
              go_upto_region 7 with fail
              generalize (w8.alloc (.cells #[.slice none 0 0, .slice none 0 0, .slice none 0 0] 55)) = w9 at *
              generalize w8.heap.size = m9 at *
              have hpt := H8.out.2.1
              have hmi := H8.out.2.2.1
              have hgg := H8.out.2.2.2.1
              have hIX := hpt.r2
              refine wp_region_lit ?_
              refine l_take 54 rfl rfl (er_mv _ rfl (.int .i64 20) rfl) ?_
              simp only [Act.put, List.setIfInBounds_toArray, List.set_cons_zero, List.set_cons_succ]
              refine l_take 55 rfl rfl (er_mv _ rfl (.int .i64 20) rfl) ?_
              simp only [Act.put, List.setIfInBounds_toArray, List.set_cons_zero, List.set_cons_succ]
              refine l_take 56 rfl rfl (er_neqI _ _ rfl 20 20 false rfl rfl (by decide)) ?_
              simp only [Act.put, List.setIfInBounds_toArray, List.set_cons_zero, List.set_cons_succ]
              refine l_take 57 rfl rfl (er_mv _ rfl (.bool false) rfl) ?_
              simp only [Act.put, List.setIfInBounds_toArray, List.set_cons_zero, List.set_cons_succ]
              refine l_take 58 rfl rfl (er_mv _ rfl (.pointer none) rfl) ?_
              simp only [Act.put, List.setIfInBounds_toArray, List.set_cons_zero, List.set_cons_succ]
              refine l_take 59 rfl rfl (er_eqN _ rfl none rfl) ?_
              simp only [Act.put, List.setIfInBounds_toArray, List.set_cons_zero, List.set_cons_succ]
              refine l_take 60 rfl rfl (er_mv _ rfl (.int .i64 20) rfl) ?_
              simp only [Act.put, List.setIfInBounds_toArray, List.set_cons_zero, List.set_cons_succ]
              refine l_take 61 rfl rfl (er_ne0 _ rfl 20 true rfl (by decide)) ?_
              simp only [Act.put, List.setIfInBounds_toArray, List.set_cons_zero, List.set_cons_succ]
              refine l_take 62 rfl rfl (er_neqB _ _ rfl true true false rfl rfl (by decide)) ?_
              simp only [Act.put, List.setIfInBounds_toArray, List.set_cons_zero, List.set_cons_succ]
              refine l_take 63 rfl rfl (er_pk _ _ _ rfl false (.bool false) rfl rfl) ?_
              simp only [Act.put, List.setIfInBounds_toArray, List.set_cons_zero, List.set_cons_succ]
              refine l_take 64 rfl rfl (er_mv _ rfl (.bool false) rfl) ?_
              simp only [Act.put, List.setIfInBounds_toArray, List.set_cons_zero, List.set_cons_succ]
              refine l_take 65 rfl rfl (er_ldO _ rfl m5 #[.slice (some ⟨z1, 0, none⟩) cs.length y1, .slice (some ⟨z2, 0, none⟩) us.length y2, .slice (some ⟨z3, 0, none⟩) lv3.length y3] rfl hmi.bx rfl) ?_
              simp only [Act.put, List.setIfInBounds_toArray, List.set_cons_zero, List.set_cons_succ]
              refine l_take 66 rfl rfl (er_ldO _ rfl b1 #[.slice ta cs.length tc, .slice va us.length vc, .slice la lvs.length lc] rfl H8.out.2.2.2.2.2.1 rfl) ?_
              simp only [Act.put, List.setIfInBounds_toArray, List.set_cons_zero, List.set_cons_succ]
              have SM := hid (sameS_yes w9 hmi.rm.or hgg.ho (by omega) (by omega) (by rw [hlv3.out]; omega) hgg.hf (fun xs hxs => ⟨(hgg.hx xs hxs).1, fun x hxx => by have := (hgg.hx xs hxs).2 x hxx; omega⟩))
              refine l_call 67 rfl rfl (ec_same _ _ _ _ rfl (.agg #[.slice (some ⟨z1, 0, none⟩) cs.length y1, .slice (some ⟨z2, 0, none⟩) us.length y2, .slice (some ⟨z3, 0, none⟩) lv3.length y3]) (.agg #[.slice ta cs.length tc, .slice va us.length vc, .slice la lvs.length lc]) rfl rfl) SM.out ?_
              clear SM
              rintro e w10 ⟨rfl, k10⟩
              refine ⟨_, rfl, ?_⟩
              simp only [Act.put, List.setIfInBounds_toArray, List.set_cons_zero, List.set_cons_succ]
              refine l_take 68 rfl rfl (er_not _ rfl true rfl) ?_
              simp only [Act.put, List.setIfInBounds_toArray, List.set_cons_zero, List.set_cons_succ]
              refine l_take 69 rfl rfl (er_pk _ _ _ rfl false (.bool false) rfl rfl) ?_
              simp only [Act.put, List.setIfInBounds_toArray, List.set_cons_zero, List.set_cons_succ]
              refine l_take 70 rfl rfl (er_mv _ rfl (.bool false) rfl) ?_
              simp only [Act.put, List.setIfInBounds_toArray, List.set_cons_zero, List.set_cons_succ]
              refine l_take 71 rfl rfl (er_ldO _ rfl m5 #[.slice (some ⟨z1, 0, none⟩) cs.length y1, .slice (some ⟨z2, 0, none⟩) us.length y2, .slice (some ⟨z3, 0, none⟩) lv3.length y3] rfl (k10.at' hmi.bx (fun e => e)) rfl) ?_
              simp only [Act.put, List.setIfInBounds_toArray, List.set_cons_zero, List.set_cons_succ]
              have hm10 := hmi.keep k10
              have SP := hid (spared_yes w10 (by omega) (by omega) (by rw [hlv3.out]; omega) hgg.hx hm10.rm.r1 hm10.rm.r2 hm10.rm.r3 hm10.rm.l1 hm10.rm.l2 hm10.rm.ent)
              refine l_call 72 rfl rfl (ec_spared _ _ rfl (.agg #[.slice (some ⟨z1, 0, none⟩) cs.length y1, .slice (some ⟨z2, 0, none⟩) us.length y2, .slice (some ⟨z3, 0, none⟩) lv3.length y3]) rfl) SP.out ?_
              clear SP
              rintro e w11 ⟨rfl, k11⟩
              refine ⟨_, rfl, ?_⟩
              simp only [Act.put, List.setIfInBounds_toArray, List.set_cons_zero, List.set_cons_succ]
              refine l_take 73 rfl rfl (er_not _ rfl true rfl) ?_
              simp only [Act.put, List.setIfInBounds_toArray, List.set_cons_zero, List.set_cons_succ]
              refine l_take 74 rfl rfl (er_pk _ _ _ rfl false (.bool false) rfl rfl) ?_
              simp only [Act.put, List.setIfInBounds_toArray, List.set_cons_zero, List.set_cons_succ]
              refine l_take 75 rfl rfl (er_mv _ rfl (.bool false) rfl) ?_
              simp only [Act.put, List.setIfInBounds_toArray, List.set_cons_zero, List.set_cons_succ]
              have k911 := k10.trans k11 (fun _ e => e.elim)
              have hp11 := hpt.keep k911
              have hg11 := hgg.keep k911
              refine l_take 76 rfl rfl (er_ldP _ rfl m6 Aq rfl hp11.bx hp11.hA) ?_
              simp only [Act.put, List.setIfInBounds_toArray, List.set_cons_zero, List.set_cons_succ]
              refine l_take 77 rfl rfl (er_ldP _ rfl b0 A rfl (k911.at' H8.out.2.2.2.2.1 (fun e => e)) hg11.hA) ?_
              simp only [Act.put, List.setIfInBounds_toArray, List.set_cons_zero, List.set_cons_succ]
              have IT := hid (intact_yes w11 hg11.hA hp11.hA hg11.h18 hg11.h19 hg11.h20 hp11.k18 hp11.k19 hp11.k20 hg11.hs hg11.he hg11.hf0 hg11.hb (by omega) (by omega) (by omega) hp11.r1 hp11.r2 hp11.r3)
              refine l_call 78 rfl rfl (ec_intact _ _ _ _ rfl (.agg Aq) (.agg A) rfl rfl) IT.out ?_
              clear IT
              rintro e w12 ⟨rfl, k12⟩
              refine ⟨_, rfl, ?_⟩
              simp only [Act.put, List.setIfInBounds_toArray, List.set_cons_zero, List.set_cons_succ]
              refine l_take 79 rfl rfl (er_not _ rfl true rfl) ?_
              simp only [Act.put, List.setIfInBounds_toArray, List.set_cons_zero, List.set_cons_succ]
              refine l_take 80 rfl rfl (er_pk _ _ _ rfl false (.bool false) rfl rfl) ?_
              simp only [Act.put, List.setIfInBounds_toArray, List.set_cons_zero, List.set_cons_succ]
              have k9 : Kept No w9 w12 := k911.trans k12 (fun _ e => e.elim)
              have H12 : Hid (True ∧ (Pq w12 B4 m6 Aq g1 g2 g3 n ne nb c1 c2 c3 p q1 p' q' us0) ∧ (Mi w12 B2 m5 m5 (.slice (some ⟨z1, 0, none⟩) cs.length y1) (.slice (some ⟨z2, 0, none⟩) us.length y2) (.slice (some ⟨z3, 0, none⟩) lv3.length y3) cs us lv3 ms3 xss hb3) ∧ (Lg w12 F A sa ea ba n sc ne ec nb bc p q1 p' q' us0 f0 (.slice ta cs.length tc) (.slice va us.length vc) (.slice la lvs.length lc) cs us lvs mss xss f) ∧ w12.heap[b0]? = some (.cells A 37) ∧ w12.heap[b1]? = some (.cells #[.slice ta cs.length tc, .slice va us.length vc, .slice la lvs.length lc] 55) ∧ w12.heap[m9]? = some (.cells #[.slice none 0 0, .slice none 0 0, .slice none 0 0] 55) ∧ Kept No w w12 ∧ (w.heap.size ≤ B2 ∧ b0 < B2 ∧ b1 < B2) ∧ m5 < B4 ∧ (B4 ≤ m6 ∧ m5 < m9)) := ⟨trivial, hpt.keep k9, hmi.keep k9, hgg.keep k9, k9.at' H8.out.2.2.2.2.1 (fun e => e), k9.at' H8.out.2.2.2.2.2.1 (fun e => e), k9.at' H8.out.2.2.2.2.2.2.1 (fun e => e), H8.out.2.2.2.2.2.2.2.1.trans k9 (fun _ e => e.elim), H8.out.2.2.2.2.2.2.2.2.1, H8.out.2.2.2.2.2.2.2.2.2.1, H8.out.2.2.2.2.2.2.2.2.2.2⟩
              clear H8 k9 hpt hmi hgg hm10 hp11 hg11 k10 k11 k12 k911 hIX
              go_upto_region 9 with fail
              have hmi := H12.out.2.2.1
              have hus : us = evK f us.length 0 := evK_zero rfl H12.out.2.2.2.1.hf
              have s2' : Rs w12 B2 m5 4 (.slice (some ⟨z2, 0, none⟩) us.length y2) (evK f us.length 0) := by rw [← hus]; exact hmi.s2
              have hml : (cs.map iv).length = cs.length := List.length_map _
              have SPO := hid (spoil_any w12 hmi.s1 s2' hmi.s3 hmi.gd (Nat.le_of_lt (heap_lt hmi.bx)) (by rw [hml]; omega) (by omega) (by rw [hlv3.out]; omega) (fun j u hu => by
                obtain ⟨h1, h2⟩ := List.getElem?_eq_some_iff.1 hu
                rw [← h2]
                simp [iv]))
              clear hus s2' hml
              refine wp_region_lit ?_
              refine l_take 81 rfl rfl (er_ldO _ rfl m5 #[.slice (some ⟨z1, 0, none⟩) cs.length y1, .slice (some ⟨z2, 0, none⟩) us.length y2, .slice (some ⟨z3, 0, none⟩) lv3.length y3] rfl hmi.bx rfl) ?_
              simp only [Act.put, List.setIfInBounds_toArray, List.set_cons_zero, List.set_cons_succ]
              refine l_call 82 rfl rfl (ec_spoil _ _ rfl (.agg #[.slice (some ⟨z1, 0, none⟩) cs.length y1, .slice (some ⟨z2, 0, none⟩) us.length y2, .slice (some ⟨z3, 0, none⟩) lv3.length y3]) rfl) SPO.out ?_
              clear SPO
              rintro e w13 ⟨⟨v82, rfl⟩, sy⟩
              refine ⟨_, rfl, ?_⟩
              simp only [Act.put, List.setIfInBounds_toArray, List.set_cons_zero, List.set_cons_succ]
              rw [show (cs.map iv).length = cs.length from List.length_map _] at sy
              have or13 := sy.or
              have k13 := sy.kept
              have hB2 := H12.out.2.2.2.2.2.2.2.2.1
              have hm54 := H12.out.2.2.2.2.2.2.2.2.2.1
              have hm46 := H12.out.2.2.2.2.2.2.2.2.2.2.1
              have hB25 : B2 < m5 := by
                obtain ⟨q1, q2, _⟩ := hmi.s1.blk (g := z1) rfl
                omega
              have H13 : Hid (True ∧ (Pq w13 B4 m6 Aq g1 g2 g3 n ne nb c1 c2 c3 p q1 p' q' us0) ∧ Or w13 (fun k => B2 ≤ k ∧ k < m5) (.slice (some ⟨z1, 0, none⟩) cs.length y1) (.slice (some ⟨z2, 0, none⟩) us.length y2) (.slice (some ⟨z3, 0, none⟩) lv3.length y3) (List.replicate cs.length (-9)) (evK f us.length us.length) (List.replicate lv3.length (.slice none 0 0)) (List.replicate lv3.length []) (List.replicate lv3.length []) ∧ (Lg w13 F A sa ea ba n sc ne ec nb bc p q1 p' q' us0 f0 (.slice ta cs.length tc) (.slice va us.length vc) (.slice la lvs.length lc) cs us lvs mss xss f) ∧ w13.heap[b0]? = some (.cells A 37) ∧ w13.heap[m5]? = some (.cells #[.slice (some ⟨z1, 0, none⟩) cs.length y1, .slice (some ⟨z2, 0, none⟩) us.length y2, .slice (some ⟨z3, 0, none⟩) lv3.length y3] 55) ∧ w13.heap[m9]? = some (.cells #[.slice none 0 0, .slice none 0 0, .slice none 0 0] 55) ∧ Kept No w w13) := by
                refine ⟨trivial, H12.out.2.1.kept k13 (fun k hk e => by omega) hm46, or13, H12.out.2.2.2.1.kept k13 (fun k hk e => by have := HFW.out k hk; omega), k13.at' H12.out.2.2.2.2.1 (fun e => by omega), k13.at' hmi.bx (fun e => by omega), k13.at' H12.out.2.2.2.2.2.2.1 (fun e => by have := H12.out.2.2.2.2.2.2.2.2.2.2.2; omega), H12.out.2.2.2.2.2.2.2.1.trans k13 (fun k e => .inr (by omega))⟩
              clear H12 hmi sy or13 k13
              go_upto_region 10 with fail
              have OW := hid (own_any w13 H13.out.2.2.1 (by simp; omega) (by simp [evK]; omega) (by simp; have := hlv3.out; omega) evK_one (fun xs hxs => ⟨(rep_hx xs hxs).1, fun x hxx => by have := (rep_hx xs hxs).2 x hxx; omega⟩))
              refine wp_region_lit ?_
              refine l_take 83 rfl rfl (er_ldO _ rfl m5 #[.slice (some ⟨z1, 0, none⟩) cs.length y1, .slice (some ⟨z2, 0, none⟩) us.length y2, .slice (some ⟨z3, 0, none⟩) lv3.length y3] rfl H13.out.2.2.2.2.2.1 rfl) ?_
              simp only [Act.put, List.setIfInBounds_toArray, List.set_cons_zero, List.set_cons_succ]
              refine l_call 84 rfl rfl (ec_own _ _ rfl (.agg #[.slice (some ⟨z1, 0, none⟩) cs.length y1, .slice (some ⟨z2, 0, none⟩) us.length y2, .slice (some ⟨z3, 0, none⟩) lv3.length y3]) rfl) OW.out ?_
              clear OW
              rintro e w14 ⟨ots, ote, otb, rfl, ow14⟩
              refine ⟨_, rfl, ?_⟩
              simp only [Act.put, List.setIfInBounds_toArray, List.set_cons_zero, List.set_cons_succ]
              have k14 : Kept No w13 w14 := by obtain ⟨_, _, _, _, _, k⟩ := ow14; exact k
              obtain ⟨lo14, mo14, hlo14, or14⟩ := ow14.or
              obtain ⟨oa1, oc1, e1, _⟩ := id or14.sems
              obtain ⟨oa2, oc2, e2, _⟩ := id or14.evs
              obtain ⟨oa3, oc3, e3, _⟩ := id or14.bufs
              subst e1 e2 e3
              have HLO := hid (show lo14.length = lv3.length by rw [hlo14]; simp)
              obtain ⟨l1, hl1⟩ : ∃ l1, l1 = (List.replicate cs.length (-9)).length := ⟨_, rfl⟩
              obtain ⟨l2, hl2⟩ : ∃ l2, l2 = (evK f us.length us.length).length := ⟨_, rfl⟩
              rw [← hl1, ← hl2] at or14
              rw [← hl1, ← hl2]
              have HL12 := hid (⟨hl1, hl2⟩ : _ ∧ _)
              clear hlo14 ow14 hl1 hl2
              have H15 : Hid (True ∧ (Pq (w14.alloc (.cells #[.slice oa1 l1 oc1, .slice oa2 l2 oc2, .slice oa3 lo14.length oc3] 55)) B4 m6 Aq g1 g2 g3 n ne nb c1 c2 c3 p q1 p' q' us0) ∧ Or (w14.alloc (.cells #[.slice oa1 l1 oc1, .slice oa2 l2 oc2, .slice oa3 lo14.length oc3] 55)) (fun k => B2 ≤ k ∧ k < m5) (.slice (some ⟨z1, 0, none⟩) cs.length y1) (.slice (some ⟨z2, 0, none⟩) us.length y2) (.slice (some ⟨z3, 0, none⟩) lv3.length y3) (List.replicate cs.length (-9)) (evK f us.length us.length) (List.replicate lv3.length (.slice none 0 0)) (List.replicate lv3.length []) (List.replicate lv3.length []) ∧ (Lg (w14.alloc (.cells #[.slice oa1 l1 oc1, .slice oa2 l2 oc2, .slice oa3 lo14.length oc3] 55)) F A sa ea ba n sc ne ec nb bc p q1 p' q' us0 f0 (.slice ta cs.length tc) (.slice va us.length vc) (.slice la lvs.length lc) cs us lvs mss xss f) ∧ (w14.alloc (.cells #[.slice oa1 l1 oc1, .slice oa2 l2 oc2, .slice oa3 lo14.length oc3] 55)).heap[b0]? = some (.cells A 37) ∧ (w14.alloc (.cells #[.slice oa1 l1 oc1, .slice oa2 l2 oc2, .slice oa3 lo14.length oc3] 55)).heap[m5]? = some (.cells #[.slice (some ⟨z1, 0, none⟩) cs.length y1, .slice (some ⟨z2, 0, none⟩) us.length y2, .slice (some ⟨z3, 0, none⟩) lv3.length y3] 55) ∧ (w14.alloc (.cells #[.slice oa1 l1 oc1, .slice oa2 l2 oc2, .slice oa3 lo14.length oc3] 55)).heap[m9]? = some (.cells #[.slice none 0 0, .slice none 0 0, .slice none 0 0] 55) ∧ Or (w14.alloc (.cells #[.slice oa1 l1 oc1, .slice oa2 l2 oc2, .slice oa3 lo14.length oc3] 55)) (fun k => w13.heap.size ≤ k ∧ k < w14.heap.size) (.slice oa1 l1 oc1) (.slice oa2 l2 oc2) (.slice oa3 lo14.length oc3) (List.replicate cs.length (-9)) (evK f us.length us.length) lo14 mo14 (List.replicate lv3.length []) ∧ (w14.alloc (.cells #[.slice oa1 l1 oc1, .slice oa2 l2 oc2, .slice oa3 lo14.length oc3] 55)).heap[w14.heap.size]? = some (.cells #[.slice oa1 l1 oc1, .slice oa2 l2 oc2, .slice oa3 lo14.length oc3] 55) ∧ Kept No w (w14.alloc (.cells #[.slice oa1 l1 oc1, .slice oa2 l2 oc2, .slice oa3 lo14.length oc3] 55))) := by
                have kk : Kept No w13 (w14.alloc (.cells #[.slice oa1 l1 oc1, .slice oa2 l2 oc2, .slice oa3 lo14.length oc3] 55)) := k14.alloc _
                exact ⟨trivial, H13.out.2.1.keep kk, H13.out.2.2.1.kept kk (fun _ _ e => e), H13.out.2.2.2.1.keep kk, kk.at' H13.out.2.2.2.2.1 (fun e => e), kk.at' H13.out.2.2.2.2.2.1 (fun e => e), kk.at' H13.out.2.2.2.2.2.2.1 (fun e => e), or14.kept ((Kept.refl No w14).alloc _) (fun _ _ e => e), alloc_new w14 _, H13.out.2.2.2.2.2.2.2.trans kk (fun _ e => e.elim)⟩
              clear H13 k14 or14
              go_upto_region 11 with fail
              generalize (w14.alloc (.cells #[.slice oa1 l1 oc1, .slice oa2 l2 oc2, .slice oa3 lo14.length oc3] 55)) = w15 at *
              generalize w14.heap.size = m11 at *
              have LD := hid (H15.out.2.1.load (f := fun i => !(f i)) HL0.out H15.out.2.2.2.1.hf0 hn hne hnb H15.out.2.2.1 evK_full rep_hx)
              refine wp_region_lit ?_
              refine l_take 86 rfl rfl (er_ldP _ rfl m6 Aq rfl H15.out.2.1.bx H15.out.2.1.hA) ?_
              simp only [Act.put, List.setIfInBounds_toArray, List.set_cons_zero, List.set_cons_succ]
              refine l_take 87 rfl rfl (er_ldO _ rfl m5 #[.slice (some ⟨z1, 0, none⟩) cs.length y1, .slice (some ⟨z2, 0, none⟩) us.length y2, .slice (some ⟨z3, 0, none⟩) lv3.length y3] rfl H15.out.2.2.2.2.2.1 rfl) ?_
              simp only [Act.put, List.setIfInBounds_toArray, List.set_cons_zero, List.set_cons_succ]
              refine l_call 88 rfl rfl (ec_load _ _ _ _ rfl (.agg Aq) (.agg #[.slice (some ⟨z1, 0, none⟩) cs.length y1, .slice (some ⟨z2, 0, none⟩) us.length y2, .slice (some ⟨z3, 0, none⟩) lv3.length y3]) rfl rfl) LD.out ?_
              clear LD
              by_cases hok2 : okL n ne nb q1 p' q' (List.replicate cs.length (-9)) (evK f us.length us.length) (List.replicate lv3.length (.slice none 0 0)) (List.replicate lv3.length [])
              · have HOK2 := hid hok2
                clear hok2
                rintro e w16 hr16
                have hr16' := hr16.resolve_right (fun hno => hno.1 HOK2.out)
                clear hr16
                obtain ⟨_, by_, rfl, la16⟩ := hr16'
                obtain ⟨sv2, ev2, bv2, it2, ms2, st2, k16⟩ := la16
                refine ⟨_, rfl, ?_⟩
                simp only [Act.put, List.setIfInBounds_toArray, List.set_cons_zero, List.set_cons_succ]
                have H16 : Hid (St w16 w15.heap.size by_ sv2 ev2 bv2 (soFull n (ck (List.replicate cs.length (-9)) p n) q1 ne (fun i => !(f i)) nb p' q' it2 ms2 (xf (List.replicate lv3.length []) nb 0)) ∧ True ∧ (Pq w16 B4 m6 Aq g1 g2 g3 n ne nb c1 c2 c3 p q1 p' q' us0) ∧ (Lg w16 F A sa ea ba n sc ne ec nb bc p q1 p' q' us0 f0 (.slice ta cs.length tc) (.slice va us.length vc) (.slice la lvs.length lc) cs us lvs mss xss f) ∧ w16.heap[b0]? = some (.cells A 37) ∧ w16.heap[m9]? = some (.cells #[.slice none 0 0, .slice none 0 0, .slice none 0 0] 55) ∧ Or w16 (fun k => w13.heap.size ≤ k ∧ k < m11) (.slice oa1 l1 oc1) (.slice oa2 l2 oc2) (.slice oa3 lo14.length oc3) (List.replicate cs.length (-9)) (evK f us.length us.length) lo14 mo14 (List.replicate lv3.length []) ∧ w16.heap[m11]? = some (.cells #[.slice oa1 l1 oc1, .slice oa2 l2 oc2, .slice oa3 lo14.length oc3] 55) ∧ Kept No w w16) := ⟨st2, trivial, H15.out.2.1.keep k16, H15.out.2.2.2.1.keep k16, k16.at' H15.out.2.2.2.2.1 (fun e => e), k16.at' H15.out.2.2.2.2.2.2.1 (fun e => e), H15.out.2.2.2.2.2.2.2.1.kept k16 (fun _ _ e => e), k16.at' H15.out.2.2.2.2.2.2.2.2.1 (fun e => e), H15.out.2.2.2.2.2.2.2.2.2.trans k16 (fun _ e => e.elim)⟩
                clear H15 k16 st2
                go_upto_region 12 with fail
                have hg16 := H16.out.2.2.2.1
                have RL := hid (rload_any (F := fun _ => True) w16 hg16.hA hg16.h18 hg16.h19 hg16.h20 (hg16.hs.mono (fun _ _ => trivial)) (hg16.hb.mono (fun _ _ => trivial)) (by omega) (by omega) (by omega) (Or.mono H16.out.2.2.2.2.2.2.1 (fun _ _ => trivial)) evK_one (fun xs hxs => ⟨(rep_hx xs hxs).1, fun x hxx => by have := (rep_hx xs hxs).2 x hxx; omega⟩))
                refine wp_region_lit ?_
                refine l_take 92 rfl rfl (er_ldP _ rfl b0 A rfl H16.out.2.2.2.2.1 hg16.hA) ?_
                simp only [Act.put, List.setIfInBounds_toArray, List.set_cons_zero, List.set_cons_succ]
                refine l_take 93 rfl rfl (er_ldO _ rfl m11 #[.slice oa1 l1 oc1, .slice oa2 l2 oc2, .slice oa3 lo14.length oc3] rfl H16.out.2.2.2.2.2.2.2.1 rfl) ?_
                simp only [Act.put, List.setIfInBounds_toArray, List.set_cons_zero, List.set_cons_succ]
                clear hg16
                refine l_call 94 rfl rfl (ec_rload _ _ _ _ rfl (.agg A) (.agg #[.slice oa1 l1 oc1, .slice oa2 l2 oc2, .slice oa3 lo14.length oc3]) rfl rfl) RL.out ?_
                clear RL
                rintro e w17 hr17
                have hlen : lo14.length = ((List.replicate lv3.length (.slice none 0 0)) : List Value).length := by rw [HLO.out]; simp
                have hr17' := hr17.resolve_right (fun hno => hno.1 ((okL_lvs hlen).2 HOK2.out))
                clear hr17 hlen
                obtain ⟨_, rts, rte, rtb, rfl, ow17⟩ := hr17'
                refine ⟨_, rfl, ?_⟩
                simp only [Act.put, List.setIfInBounds_toArray, List.set_cons_zero, List.set_cons_succ]
                have k17 : Kept No w16 w17 := by obtain ⟨_, _, _, _, _, k⟩ := ow17; exact k
                obtain ⟨lr17, mr17, hlr17, or17⟩ := ow17.or
                obtain ⟨ra1, rc1, e1, _⟩ := id or17.sems
                obtain ⟨ra2, rc2, e2, _⟩ := id or17.evs
                obtain ⟨ra3, rc3, e3, _⟩ := id or17.bufs
                subst e1 e2 e3
                obtain ⟨r1, hr1⟩ : ∃ l1, l1 = (List.replicate cs.length (-9)).length := ⟨_, rfl⟩
                obtain ⟨r2, hr2⟩ : ∃ l2, l2 = (evK f us.length us.length).length := ⟨_, rfl⟩
                rw [← hr1, ← hr2] at or17
                rw [← hr1, ← hr2]
                have HLR := hid (show lr17.length = lv3.length by rw [hlr17]; simp)
                have HR12 := hid (⟨hr1, hr2⟩ : _ ∧ _)
                clear hlr17 ow17 hr1 hr2
                have H18 : Hid (Or (w17.alloc (.cells #[.slice ra1 r1 rc1, .slice ra2 r2 rc2, .slice ra3 lr17.length rc3] 55)) (fun k => w16.heap.size ≤ k ∧ k < w17.heap.size) (.slice ra1 r1 rc1) (.slice ra2 r2 rc2) (.slice ra3 lr17.length rc3) (List.replicate cs.length (-9)) (evK f us.length us.length) lr17 mr17 (List.replicate lv3.length []) ∧ St (w17.alloc (.cells #[.slice ra1 r1 rc1, .slice ra2 r2 rc2, .slice ra3 lr17.length rc3] 55)) w15.heap.size by_ sv2 ev2 bv2 (soFull n (ck (List.replicate cs.length (-9)) p n) q1 ne (fun i => !(f i)) nb p' q' it2 ms2 (xf (List.replicate lv3.length []) nb 0)) ∧ True ∧ (Pq (w17.alloc (.cells #[.slice ra1 r1 rc1, .slice ra2 r2 rc2, .slice ra3 lr17.length rc3] 55)) B4 m6 Aq g1 g2 g3 n ne nb c1 c2 c3 p q1 p' q' us0) ∧ (Lg (w17.alloc (.cells #[.slice ra1 r1 rc1, .slice ra2 r2 rc2, .slice ra3 lr17.length rc3] 55)) F A sa ea ba n sc ne ec nb bc p q1 p' q' us0 f0 (.slice ta cs.length tc) (.slice va us.length vc) (.slice la lvs.length lc) cs us lvs mss xss f) ∧ (w17.alloc (.cells #[.slice ra1 r1 rc1, .slice ra2 r2 rc2, .slice ra3 lr17.length rc3] 55)).heap[m9]? = some (.cells #[.slice none 0 0, .slice none 0 0, .slice none 0 0] 55) ∧ (w17.alloc (.cells #[.slice ra1 r1 rc1, .slice ra2 r2 rc2, .slice ra3 lr17.length rc3] 55)).heap[w17.heap.size]? = some (.cells #[.slice ra1 r1 rc1, .slice ra2 r2 rc2, .slice ra3 lr17.length rc3] 55) ∧ Kept No w (w17.alloc (.cells #[.slice ra1 r1 rc1, .slice ra2 r2 rc2, .slice ra3 lr17.length rc3] 55))) := by
                  have kk : Kept No w16 (w17.alloc (.cells #[.slice ra1 r1 rc1, .slice ra2 r2 rc2, .slice ra3 lr17.length rc3] 55)) := k17.alloc _
                  exact ⟨or17.kept ((Kept.refl No w17).alloc _) (fun _ _ e => e), H16.out.1.keep kk, trivial, H16.out.2.2.1.keep kk, H16.out.2.2.2.1.keep kk, kk.at' H16.out.2.2.2.2.2.1 (fun e => e), alloc_new w17 _, H16.out.2.2.2.2.2.2.2.2.trans kk (fun _ e => e.elim)⟩
                clear H16 k17 or17
                go_upto_region 13 with fail
                generalize (w17.alloc (.cells #[.slice ra1 r1 rc1, .slice ra2 r2 rc2, .slice ra3 lr17.length rc3] 55)) = w18 at *
                generalize w17.heap.size = m14 at *
                have SMM := hid (full_sm H18.out.2.1 hn hne hnb rep_hx)
                have CS : Hid (∀ W, Kept No w18 W → Calls Try.prog 13 #[.pointer (some ⟨by_, 0, none⟩)] W fun e w' => ∃ v, e = .returned v ∧ Kept No w18 w' ∧ ∃ ts5 te5 tb5, v = .agg #[ts5, te5, tb5] ∧ Calls Try.prog 20 #[.agg #[ts5, te5, tb5], .agg #[.slice ra1 r1 rc1, .slice ra2 r2 rc2, .slice ra3 lr17.length rc3]] w' fun e w'' => ∃ v, e = .returned v ∧ Kept No w18 w'' ∧ v = .bool true) := fun W kk => by
                  refine (state_any W (H18.out.2.1.keep kk) SMM.out).mono ?_
                  rintro e w' ⟨ts5, te5, tb5, rfl, T⟩
                  have kt : Kept No W w' := by obtain ⟨_, _, _, _, _, _, k⟩ := id T; exact k
                  have k5 := kk.trans kt (fun _ e => e.elim)
                  obtain ⟨lv5, ms5, hl5, or5⟩ := full_or T HOK2.out (by simp) evK_full
                  refine ⟨_, rfl, k5, ts5, te5, tb5, rfl, ?_⟩
                  have hll : lv5.length ≤ 4095 := by rw [hl5]; omega
                  refine (sameS_yes w' or5 (H18.out.1.kept k5 (fun _ _ e => e)) (by simp; omega) (by simp [evK]; omega) hll evK_full (fun xs hxs => ⟨(rep_hx xs hxs).1, fun x hxx => by have := (rep_hx xs hxs).2 x hxx; omega⟩)).mono ?_
                  rintro e w'' ⟨rfl, k6⟩
                  exact ⟨_, rfl, k5.trans k6 (fun _ e => e.elim), rfl⟩
                clear SMM
                refine wp_region_held_drew (S := fun W => Kept No w18 W) (by kernel_rfl) ((Kept.refl No w18).drew) (fun hS => ?_)
                refine d_take 0 97 rfl rfl (by kernel_rfl) (by kernel_rfl) (by kernel_rfl) (fun _ _ _ h => h) rfl (fun w' hw' => er_mv _ rfl (.int .i64 0) rfl) hS ?_
                simp only [Act.put, List.setIfInBounds_toArray, List.set_cons_zero, List.set_cons_succ]
                refine d_take 1 98 rfl rfl (by kernel_rfl) (by kernel_rfl) (by kernel_rfl) (fun _ _ _ h => h) rfl (fun w' hw' => er_mv _ rfl (.int .i64 0) rfl) hS ?_
                simp only [Act.put, List.setIfInBounds_toArray, List.set_cons_zero, List.set_cons_succ]
                refine d_take 2 99 rfl rfl (by kernel_rfl) (by kernel_rfl) (by kernel_rfl) (fun _ _ _ h => h) rfl (fun w' hw' => er_neqI _ _ rfl 0 0 false rfl rfl (by decide)) hS ?_
                simp only [Act.put, List.setIfInBounds_toArray, List.set_cons_zero, List.set_cons_succ]
                refine d_take 3 100 rfl rfl (by kernel_rfl) (by kernel_rfl) (by kernel_rfl) (fun _ _ _ h => h) rfl (fun w' hw' => er_mv _ rfl (.bool false) rfl) hS ?_
                simp only [Act.put, List.setIfInBounds_toArray, List.set_cons_zero, List.set_cons_succ]
                refine d_take 4 101 rfl rfl (by kernel_rfl) (by kernel_rfl) (by kernel_rfl) (fun _ _ _ h => h) rfl (fun w' hw' => er_mv _ rfl (.pointer (some ⟨by_, 0, none⟩)) rfl) hS ?_
                simp only [Act.put, List.setIfInBounds_toArray, List.set_cons_zero, List.set_cons_succ]
                refine d_take 5 102 rfl rfl (by kernel_rfl) (by kernel_rfl) (by kernel_rfl) (fun _ _ _ h => h) rfl (fun w' hw' => er_eqN _ rfl (some ⟨by_, 0, none⟩) rfl) hS ?_
                simp only [Act.put, List.setIfInBounds_toArray, List.set_cons_zero, List.set_cons_succ]
                refine d_take 6 103 rfl rfl (by kernel_rfl) (by kernel_rfl) (by kernel_rfl) (fun _ _ _ h => h) rfl (fun w' hw' => er_mv _ rfl (.int .i64 0) rfl) hS ?_
                simp only [Act.put, List.setIfInBounds_toArray, List.set_cons_zero, List.set_cons_succ]
                refine d_take 7 104 rfl rfl (by kernel_rfl) (by kernel_rfl) (by kernel_rfl) (fun _ _ _ h => h) rfl (fun w' hw' => er_ne0 _ rfl 0 false rfl (by decide)) hS ?_
                simp only [Act.put, List.setIfInBounds_toArray, List.set_cons_zero, List.set_cons_succ]
                refine d_take 8 105 rfl rfl (by kernel_rfl) (by kernel_rfl) (by kernel_rfl) (fun _ _ _ h => h) rfl (fun w' hw' => er_neqB _ _ rfl false false false rfl rfl (by decide)) hS ?_
                simp only [Act.put, List.setIfInBounds_toArray, List.set_cons_zero, List.set_cons_succ]
                refine d_take 9 106 rfl rfl (by kernel_rfl) (by kernel_rfl) (by kernel_rfl) (fun _ _ _ h => h) rfl (fun w' hw' => er_pk _ _ _ rfl false (.bool false) rfl rfl) hS ?_
                simp only [Act.put, List.setIfInBounds_toArray, List.set_cons_zero, List.set_cons_succ]
                refine d_take 10 107 rfl rfl (by kernel_rfl) (by kernel_rfl) (by kernel_rfl) (fun _ _ _ h => h) rfl (fun w' hw' => er_mv _ rfl (.bool false) rfl) hS ?_
                simp only [Act.put, List.setIfInBounds_toArray, List.set_cons_zero, List.set_cons_succ]
                refine d_take 11 108 rfl rfl (by kernel_rfl) (by kernel_rfl) (by kernel_rfl) (fun _ _ _ h => h) rfl (fun w' hw' => er_mv _ rfl (.pointer (some ⟨by_, 0, none⟩)) rfl) hS ?_
                simp only [Act.put, List.setIfInBounds_toArray, List.set_cons_zero, List.set_cons_succ]
                refine d_take 12 109 rfl rfl (by kernel_rfl) (by kernel_rfl) (by kernel_rfl) (fun _ _ _ h => h) rfl (fun w' hw' => er_neN _ rfl (some ⟨by_, 0, none⟩) rfl) hS ?_
                simp only [Act.put, List.setIfInBounds_toArray, List.set_cons_zero, List.set_cons_succ]
                refine d_take 13 110 rfl rfl (by kernel_rfl) (by kernel_rfl) (by kernel_rfl) (fun _ _ _ h => h) rfl (fun w' hw' => er_mv _ rfl (.bool true) rfl) hS ?_
                simp only [Act.put, List.setIfInBounds_toArray, List.set_cons_zero, List.set_cons_succ]
                refine d_take 14 111 rfl rfl (by kernel_rfl) (by kernel_rfl) (by kernel_rfl) (fun _ _ _ h => h) rfl (fun w' hw' => er_mv _ rfl (.pointer (some ⟨by_, 0, none⟩)) rfl) hS ?_
                simp only [Act.put, List.setIfInBounds_toArray, List.set_cons_zero, List.set_cons_succ]
                refine d_take 16 113 rfl rfl (by kernel_rfl) (by kernel_rfl) (by kernel_rfl) (fun _ _ _ h => h) rfl (fun w' hw' => er_ldO _ rfl m14 #[.slice ra1 r1 rc1, .slice ra2 r2 rc2, .slice ra3 lr17.length rc3] rfl (hw'.at' H18.out.2.2.2.2.2.2.1 (fun e => e)) rfl) hS ?_
                simp only [Act.put, List.setIfInBounds_toArray, List.set_cons_zero, List.set_cons_succ]
                refine d_callN _ 15 112 (by kernel_rfl) rfl rfl rfl (ec_state _ _ rfl (.pointer (some ⟨by_, 0, none⟩)) rfl) (CS.out _ hS) ?_
                rintro u w19 hS ⟨ts5, te5, tb5, rfl, cs5⟩
                simp only [Act.put, List.setIfInBounds_toArray, List.set_cons_zero, List.set_cons_succ]
                refine d_callN _ 17 114 (by kernel_rfl) rfl rfl rfl (ec_same _ _ _ _ rfl (.agg #[ts5, te5, tb5]) (.agg #[.slice ra1 r1 rc1, .slice ra2 r2 rc2, .slice ra3 lr17.length rc3]) rfl rfl) cs5 ?_
                rintro u w20 hS rfl
                simp only [Act.put, List.setIfInBounds_toArray, List.set_cons_zero, List.set_cons_succ]
                refine d_take 18 115 rfl rfl (by kernel_rfl) (by kernel_rfl) (by kernel_rfl) (fun _ _ _ h => h) rfl (fun w' hw' => er_not _ rfl true rfl) hS ?_
                simp only [Act.put, List.setIfInBounds_toArray, List.set_cons_zero, List.set_cons_succ]
                refine d_take 19 116 rfl rfl (by kernel_rfl) (by kernel_rfl) (by kernel_rfl) (fun _ _ _ h => h) rfl (fun w' hw' => er_pk _ _ _ rfl true (.bool false) rfl rfl) hS ?_
                simp only [Act.put, List.setIfInBounds_toArray, List.set_cons_zero, List.set_cons_succ]
                refine d_take 20 117 rfl rfl (by kernel_rfl) (by kernel_rfl) (by kernel_rfl) (fun _ _ _ h => h) rfl (fun w' hw' => er_pk _ _ _ rfl false (.bool false) rfl rfl) hS ?_
                simp only [Act.put, List.setIfInBounds_toArray, List.set_cons_zero, List.set_cons_succ]
                refine wpAnyH_done (by kernel_rfl) ?_ _
                have K20 := hid hS
                clear hS cs5 CS
                go_upto_region 15 with fail
                have hp20 := H18.out.2.2.2.1.keep K20.out
                have KW20 : Hid (Kept No w18 w20) := K20
                have hus0 : us0 = evK f0 ne 0 := evK_zero HL0.out H18.out.2.2.2.2.1.hf0
                have r20 : Rw w20 B4 4 1 (.slice (some ⟨g2, 0, none⟩) ne c2) ne (evK f0 ne 0) [.bool true] := by rw [← hus0]; exact hp20.r2
                have EM := hid (emptied_any w20 hp20.hA hp20.k18 hp20.k19 hp20.k20 (by omega) (by omega) (by omega) hp20.r1 r20 hp20.r3)
                refine wp_region_lit ?_
                refine l_take 118 rfl rfl (er_ldP _ rfl m6 Aq rfl hp20.bx hp20.hA) ?_
                simp only [Act.put, List.setIfInBounds_toArray, List.set_cons_zero, List.set_cons_succ]
                refine l_call 119 rfl rfl (ec_emptied _ _ rfl (.agg Aq) rfl) EM.out ?_
                clear EM
                rintro e w21 ⟨⟨v119, rfl⟩, em⟩
                refine ⟨_, rfl, ?_⟩
                simp only [Act.put, List.setIfInBounds_toArray, List.set_cons_zero, List.set_cons_succ]
                have k21 := em.kept
                have hgs : w.heap.size ≤ g1 ∧ w.heap.size ≤ g2 ∧ w.heap.size ≤ g3 := by
                  have q1 := (hp20.r1.blk (g := g1) rfl).1
                  have q2 := (hp20.r2.blk (g := g2) rfl).1
                  have q3 := (hp20.r3.blk (g := g3) rfl).1
                  omega
                have KF : Hid (Kept No w w21) := (H18.out.2.2.2.2.2.2.2.trans K20.out (fun _ e => e.elim)).trans k21 (fun k e => .inr (by rcases e with e | e | e <;> omega))
                clear hp20 r20 hus0 em k21 hgs H18 K20
                go_upto_region 16 with fail
                go_quiet (fail)
                go_wp2
                go_ret
                exact ⟨rfl, KF.out.drewN _⟩
              · have HOK2 := hid hok2
                clear hok2
                rintro e w16 hr16
                exact absurd (by rw [hlv3.out]; exact H2.out) HOK2.out
  · refine ⟨_, rfl, ?_⟩
    simp only [Act.put, List.setIfInBounds_toArray, List.set_cons_zero, List.set_cons_succ]
    have K1 := hid (H0.out.2.2.2.trans k1 (fun _ e => e.elim))
    clear H0 k1 d0 d1 d2
    go_wp2
    go_ret
    exact ⟨rfl, K1.out⟩
end Go.Proofs.Ytggkajopfbokjaa
