/-
  The document's Same: two states.
-/
import Derived.Test.YtggkajopfbokjaaOFlowC
namespace Go.Proofs.Ytggkajopfbokjaa
open Go.RowKit
set_option linter.unusedVariables false
set_option maxRecDepth 100000

set_option maxHeartbeats 8000000 in
theorem sameS_yes {F G : Nat → Prop} {ts te tb ts' te' tb' : Value} {cs : List Int} {us lvs lvs' : List Value} {mss mss' : List (List Value)} {xss : List (List (List Int))} {f : Nat → Bool} (w : World) (h : Or w F ts te tb cs us lvs mss xss) (h' : Or w G ts' te' tb' cs us lvs' mss' xss) (hc : cs.length ≤ 4095) (hu : us.length ≤ 4095) (hl : lvs.length ≤ 4095) (hf : ∀ i, i < us.length → us[i]? = some (.bool (f i))) (hx : ∀ xs ∈ xss, xs.length ≤ 1099511627775 ∧ ∀ x ∈ xs, x.length ≤ 17592186044416) :
    Calls Try.prog 20 #[.agg #[ts, te, tb], .agg #[ts', te', tb']] w fun e w' => e = .returned (.bool true) ∧ Kept No w w' := by
  have hll : lvs'.length = lvs.length := by rw [← h'.len2, h.len2]
  obtain ⟨ta, tc, rfl, hts⟩ := h.sems
  obtain ⟨va, vc, rfl, hvs⟩ := h.evs
  obtain ⟨la, lc, rfl, hls⟩ := h.bufs
  obtain ⟨ta', tc', rfl, hts'⟩ := h'.sems
  obtain ⟨va', vc', rfl, hvs'⟩ := h'.evs
  obtain ⟨la', lc', rfl, hls'⟩ := h'.bufs
  rw [hll] at hls' ⊢
  have HS : Hid (Zs w F ta cs.length tc cs ∧ Zs w G ta' cs.length tc' cs) := ⟨hts, hts'⟩
  have HV : Hid (Vs w F va us.length vc us ∧ Vs w G va' us.length vc' us ∧ ∀ i, i < us.length → us[i]? = some (.bool (f i))) := ⟨hvs, hvs', hf⟩
  have HL : Hid (Vs w F la lvs.length lc lvs ∧ Vs w G la' lvs.length lc' lvs') := ⟨hls, hls'⟩
  have HE : Hid ((∀ (i : Nat) (lv : Value) (ms : List Value) (xs : List (List Int)), lvs[i]? = some lv → mss[i]? = some ms → xss[i]? = some xs → (∃ a c, lv = .slice a ms.length c ∧ Vs w F a ms.length c ms) ∧ xs.length = ms.length ∧ ∀ (j : Nat) (v : Value) (x : List Int), ms[j]? = some v → xs[j]? = some x → ∃ a c, v = .slice a x.length c ∧ Zs w F a x.length c x) ∧ (∀ (i : Nat) (lv : Value) (ms : List Value) (xs : List (List Int)), lvs'[i]? = some lv → mss'[i]? = some ms → xss[i]? = some xs → (∃ a c, lv = .slice a ms.length c ∧ Vs w G a ms.length c ms) ∧ xs.length = ms.length ∧ ∀ (j : Nat) (v : Value) (x : List Int), ms[j]? = some v → xs[j]? = some x → ∃ a c, v = .slice a x.length c ∧ Zs w G a x.length c x) ∧ mss.length = lvs.length ∧ mss'.length = lvs.length ∧ xss.length = lvs.length ∧ lvs'.length = lvs.length ∧ ∀ xs ∈ xss, xs.length ≤ 1099511627775 ∧ ∀ x ∈ xs, x.length ≤ 17592186044416) := ⟨h.ent, h'.ent, h.len1, by rw [h'.len1, hll], h.len2, hll, hx⟩
  have z1 := hts.cap
  have z2 := hts.max
  have z3 := hts'.cap
  have z4 := hts'.max
  have z5 := hvs.cap
  have z6 := hvs.max
  have z7 := hvs'.cap
  have z8 := hvs'.max
  have z9 := hls.cap
  have z10 := hls.max
  have z11 := hls'.cap
  have z12 := hls'.max
  have B1 : Hid (Kept No w ((w.alloc (.cells #[.slice ta cs.length tc, .slice va us.length vc, .slice la lvs.length lc] 55)).alloc (.cells #[.slice ta' cs.length tc', .slice va' us.length vc', .slice la' lvs.length lc'] 55)) ∧ ((w.alloc (.cells #[.slice ta cs.length tc, .slice va us.length vc, .slice la lvs.length lc] 55)).alloc (.cells #[.slice ta' cs.length tc', .slice va' us.length vc', .slice la' lvs.length lc'] 55)).heap[w.heap.size]? = some (.cells #[.slice ta cs.length tc, .slice va us.length vc, .slice la lvs.length lc] 55) ∧ ((w.alloc (.cells #[.slice ta cs.length tc, .slice va us.length vc, .slice la lvs.length lc] 55)).alloc (.cells #[.slice ta' cs.length tc', .slice va' us.length vc', .slice la' lvs.length lc'] 55)).heap[w.heap.size + 1]? = some (.cells #[.slice ta' cs.length tc', .slice va' us.length vc', .slice la' lvs.length lc'] 55)) := by
    refine ⟨((Kept.refl No w).alloc _).alloc _, ((Kept.refl No _).alloc _).at' (alloc_new w _) (fun e => e), ?_⟩
    have h5 := alloc_new (w.alloc (.cells #[.slice ta cs.length tc, .slice va us.length vc, .slice la lvs.length lc] 55)) (.cells #[.slice ta' cs.length tc', .slice va' us.length vc', .slice la' lvs.length lc'] 55)
    rwa [World.size_alloc] at h5
  have BC : Hid (∀ W, Kept No ((w.alloc (.cells #[.slice ta cs.length tc, .slice va us.length vc, .slice la lvs.length lc] 55)).alloc (.cells #[.slice ta' cs.length tc', .slice va' us.length vc', .slice la' lvs.length lc'] 55)) W → Kept No w W ∧ (W.cell? ⟨w.heap.size, 0, none⟩ = some (.slice ta cs.length tc) ∧ W.cell? ⟨w.heap.size, 1, none⟩ = some (.slice va us.length vc) ∧ W.cell? ⟨w.heap.size, 2, none⟩ = some (.slice la lvs.length lc)) ∧ (W.cell? ⟨w.heap.size + 1, 0, none⟩ = some (.slice ta' cs.length tc') ∧ W.cell? ⟨w.heap.size + 1, 1, none⟩ = some (.slice va' us.length vc') ∧ W.cell? ⟨w.heap.size + 1, 2, none⟩ = some (.slice la' lvs.length lc'))) := fun W k => ⟨B1.out.1.trans k (fun _ e => e.elim), ⟨(cell_blk (k.at' B1.out.2.1 (fun e => e)) 0).trans rfl, (cell_blk (k.at' B1.out.2.1 (fun e => e)) 1).trans rfl, (cell_blk (k.at' B1.out.2.1 (fun e => e)) 2).trans rfl⟩, (cell_blk (k.at' B1.out.2.2 (fun e => e)) 0).trans rfl, (cell_blk (k.at' B1.out.2.2 (fun e => e)) 1).trans rfl, (cell_blk (k.at' B1.out.2.2 (fun e => e)) 2).trans rfl⟩
  obtain ⟨_, ⟨d0, d1, d2⟩, d3, d4, d5⟩ := BC.out _ (Kept.refl No _)
  have q1 : ((cs.length : Int) != (cs.length : Int)) = false := by simp
  have q2 : ((us.length : Int) != (us.length : Int)) = false := by simp
  have q3 : ((lvs.length : Int) != (lvs.length : Int)) = false := by simp
  clear h h' hts hts' hvs hvs' hls hls' hf hx hll B1
  go_enter Try.func20, Try.ntmps20
  go_upto_region 1 with fail
  generalize ((w.alloc (.cells #[.slice ta cs.length tc, .slice va us.length vc, .slice la lvs.length lc] 55)).alloc (.cells #[.slice ta' cs.length tc', .slice va' us.length vc', .slice la' lvs.length lc'] 55)) = w1 at *
  go_upto_region 4 with fail
  clear d0 d1 d2 d3 d4 d5 q1 q2 q3
  go_loopw [5] (fun x wr => ∃ (k : Nat), k ≤ cs.length ∧ x = .int .i64 k ∧ Kept No w1 wr) (fun x _ => cs.length - (intOf x).toNat)
  case atStart => exact ⟨0, Nat.zero_le _, rfl, Kept.refl No _⟩
  case round =>
    obtain ⟨k, hk, rfl, kk⟩ := hrel
    have HK := hid kk
    obtain ⟨kw, ⟨d0, d1, d2⟩, d3, d4, d5⟩ := BC.out _ kk
    clear kk
    by_cases hlt : k < cs.length
    · have hltz : (k : Int) < (cs.length : Int) := by omega
      obtain ⟨b1, o1, rfl, _, e0⟩ := (HS.out.1.kept kw (fun _ _ e => e)).at' k hlt
      obtain ⟨b2, o2, rfl, _, e1⟩ := (HS.out.2.kept kw (fun _ _ e => e)).at' k hlt
      have e0' : wr.cell? ⟨b1, o1 + k, none⟩ = some (.int .i64 (cs.getD k 0)) := e0
      have e1' : wr.cell? ⟨b2, o2 + k, none⟩ = some (.int .i64 (cs.getD k 0)) := e1
      clear e0 e1 kw d1 d2 d4 d5
      generalize cs.getD k 0 = x at *
      have hx : (x != x) = false := by simp
      go_upto_region 6 with fail
      go_region
      go_wp2
      go_roundw
      case rel => exact ⟨k + 1, by omega, by go_num, HK.out.drew⟩
      case measure => simp [intOf]; omega
    · have hltz : ¬ (k : Int) < (cs.length : Int) := by omega
      clear kw
      go_upto_region 9 with fail
      clear d0 d1 d2 d3 d4 d5
      go_loopw [6] (fun x wr => ∃ (k : Nat), k ≤ us.length ∧ x = .int .i64 k ∧ Kept No w1 wr) (fun x _ => us.length - (intOf x).toNat)
      case atStart => exact ⟨0, Nat.zero_le _, rfl, HK.out⟩
      case round =>
        clear HK
        obtain ⟨m, hm, rfl, kk⟩ := hrel
        have HK := hid kk
        obtain ⟨kw, ⟨d0, d1, d2⟩, d3, d4, d5⟩ := BC.out _ kk
        clear kk
        by_cases hlt2 : m < us.length
        · have hltz2 : (m : Int) < (us.length : Int) := by omega
          have hfm := HV.out.2.2 m hlt2
          obtain ⟨b1, o1, rfl, _, e0⟩ := (HV.out.1.kept kw (fun _ _ e => e)).at' m _ hfm
          obtain ⟨b2, o2, rfl, _, e1⟩ := (HV.out.2.1.kept kw (fun _ _ e => e)).at' m _ hfm
          clear kw d0 d2 d3 d5 hfm
          generalize f m = x at *
          have hx : (x != x) = false := by simp
          go_upto_region 11 with fail
          go_region
          go_wp2
          go_roundw
          case rel => exact ⟨m + 1, by omega, by go_num, HK.out.drew⟩
          case measure => simp [intOf]; omega
        · have hltz2 : ¬ (m : Int) < (us.length : Int) := by omega
          clear kw
          go_upto_region 14 with fail
          clear d0 d1 d2 d3 d4 d5
          go_loopw [7] (fun x wr => ∃ (k : Nat), k ≤ lvs.length ∧ x = .int .i64 k ∧ Kept No w1 wr) (fun x _ => lvs.length - (intOf x).toNat)
          case atStart => exact ⟨0, Nat.zero_le _, rfl, HK.out⟩
          case round =>
            clear HK
            obtain ⟨n, hn, rfl, kk⟩ := hrel
            have HK := hid kk
            obtain ⟨kw, ⟨d0, d1, d2⟩, d3, d4, d5⟩ := BC.out _ kk
            clear kk
            by_cases hlt3 : n < lvs.length
            · have hltz3 : (n : Int) < (lvs.length : Int) := by omega
              have g1 : lvs[n]? = some lvs[n] := List.getElem?_eq_getElem hlt3
              have g1' : lvs'[n]? = some (lvs'[n]'(by rw [HE.out.2.2.2.2.2.1]; exact hlt3)) := List.getElem?_eq_getElem _
              have g2 : mss[n]? = some (mss[n]'(by rw [HE.out.2.2.1]; exact hlt3)) := List.getElem?_eq_getElem _
              have g2' : mss'[n]? = some (mss'[n]'(by rw [HE.out.2.2.2.1]; exact hlt3)) := List.getElem?_eq_getElem _
              have g3 : xss[n]? = some (xss[n]'(by rw [HE.out.2.2.2.2.1]; exact hlt3)) := List.getElem?_eq_getElem _
              obtain ⟨⟨na, nc, hlv, hns⟩, hxl, hmsg⟩ := HE.out.1 n _ _ _ g1 g2 g3
              obtain ⟨⟨na', nc', hlv', hns'⟩, hxl', hmsg'⟩ := HE.out.2.1 n _ _ _ g1' g2' g3
              obtain ⟨b1, o1, rfl, _, e0⟩ := (HL.out.1).at' n _ g1
              obtain ⟨b2, o2, rfl, _, e1⟩ := (HL.out.2).at' n _ g1'
              rw [hlv] at e0
              rw [hlv'] at e1
              have hbx := HE.out.2.2.2.2.2.2 _ (List.mem_of_getElem? g3)
              generalize mss[n]'(by rw [HE.out.2.2.1]; exact hlt3) = ns at *
              generalize mss'[n]'(by rw [HE.out.2.2.2.1]; exact hlt3) = ns' at *
              generalize xss[n]'(by rw [HE.out.2.2.2.2.1]; exact hlt3) = xs at *
              have hnn : ns'.length = ns.length := by rw [← hxl', hxl]
              rw [hnn] at hns' e1
              have y1 := hns.cap
              have y2 := hns.max
              have y3 := hns'.cap
              have y4 := hns'.max
              have hnl : ns.length ≤ 1099511627775 := by rw [← hxl]; exact hbx.1
              have HN : Hid (Vs w F na ns.length nc ns ∧ Vs w G na' ns.length nc' ns' ∧ xs.length = ns.length ∧ ns'.length = ns.length ∧ (∀ (j : Nat) (v : Value) (x : List Int), ns[j]? = some v → xs[j]? = some x → ∃ a c, v = .slice a x.length c ∧ Zs w F a x.length c x) ∧ (∀ (j : Nat) (v : Value) (x : List Int), ns'[j]? = some v → xs[j]? = some x → ∃ a c, v = .slice a x.length c ∧ Zs w G a x.length c x) ∧ (∀ x ∈ xs, x.length ≤ 17592186044416) ∧ w.cell? ⟨b1, o1 + n, none⟩ = some (.slice na ns.length nc) ∧ w.cell? ⟨b2, o2 + n, none⟩ = some (.slice na' ns.length nc')) := ⟨hns, hns', hxl, hnn, hmsg, hmsg', hbx.2, e0, e1⟩
              have e0 := kw.cell e0 (fun e => e)
              have e1 := kw.cell e1 (fun e => e)
              clear kw d0 d1 d3 d4 g1 g1' g2 g2' g3 hlv hlv' hns hns' hxl hxl' hmsg hmsg' hbx hnn
              have q4 : ((ns.length : Int) != (ns.length : Int)) = false := by simp
              go_upto_region 16 with fail
              go_region
              go_upto_region 19 with fail
              clear e0 e1 d2 d5 q4
              go_loopw [8] (fun x wr => ∃ (k : Nat), k ≤ ns.length ∧ x = .int .i64 k ∧ Kept No w1 wr) (fun x _ => ns.length - (intOf x).toNat)
              case atStart => exact ⟨0, Nat.zero_le _, rfl, HK.out.drew⟩
              case round =>
                clear HK
                obtain ⟨j, hj, rfl, kk⟩ := hrel
                have HK := hid kk
                obtain ⟨kw, ⟨d0, d1, d2⟩, d3, d4, d5⟩ := BC.out _ kk
                have e0 := kw.cell HN.out.2.2.2.2.2.2.2.1 (fun e => e)
                have e1 := kw.cell HN.out.2.2.2.2.2.2.2.2 (fun e => e)
                clear kk d0 d1 d3 d4
                by_cases hlt4 : j < ns.length
                · have hltz4 : (j : Int) < (ns.length : Int) := by omega
                  have g1 : ns[j]? = some ns[j] := List.getElem?_eq_getElem hlt4
                  have g1' : ns'[j]? = some (ns'[j]'(by rw [HN.out.2.2.2.1]; exact hlt4)) := List.getElem?_eq_getElem _
                  have g2 : xs[j]? = some (xs[j]'(by rw [HN.out.2.2.1]; exact hlt4)) := List.getElem?_eq_getElem _
                  obtain ⟨xa, xc, hv, hz⟩ := HN.out.2.2.2.2.1 j _ _ g1 g2
                  obtain ⟨xa', xc', hv', hz'⟩ := HN.out.2.2.2.2.2.1 j _ _ g1' g2
                  obtain ⟨b3, o3, rfl, _, e3⟩ := (HN.out.1.kept kw (fun _ _ e => e)).at' j _ g1
                  obtain ⟨b4, o4, rfl, _, e4⟩ := (HN.out.2.1.kept kw (fun _ _ e => e)).at' j _ g1'
                  rw [hv] at e3
                  rw [hv'] at e4
                  have hy := HN.out.2.2.2.2.2.2.1 _ (List.mem_of_getElem? g2)
                  generalize xs[j]'(by rw [HN.out.2.2.1]; exact hlt4) = y at *
                  have SW := hid (same_yes wr.drew ((hz.kept kw (fun _ _ e => e)).kept ((Kept.refl No wr).drew) (fun _ _ e => e)) ((hz'.kept kw (fun _ _ e => e)).kept ((Kept.refl No wr).drew) (fun _ _ e => e)) hy)
                  clear g1 g1' g2 hv hv' hz hz' hy kw
                  go_upto_region 21 with fail
                  have s1 : wr.drew.cell? ⟨w.heap.size, 2, none⟩ = some (.slice (some ⟨b1, o1, none⟩) lvs.length lc) ∧ wr.drew.cell? ⟨w.heap.size + 1, 2, none⟩ = some (.slice (some ⟨b2, o2, none⟩) lvs.length lc') ∧ wr.drew.cell? ⟨b1, o1 + n, none⟩ = some (.slice (some ⟨b3, o3, none⟩) ns.length nc) ∧ wr.drew.cell? ⟨b2, o2 + n, none⟩ = some (.slice (some ⟨b4, o4, none⟩) ns.length nc') ∧ wr.drew.cell? ⟨b3, o3 + j, none⟩ = some (.slice xa y.length xc) ∧ wr.drew.cell? ⟨b4, o4 + j, none⟩ = some (.slice xa' y.length xc') := ⟨d2, d5, e0, e1, e3, e4⟩
                  have SC : Hid (Calls Try.prog 11 #[.slice xa y.length xc, .slice xa' y.length xc'] wr.drew fun e w' => e = .returned (.bool true) ∧ ((w'.cell? ⟨w.heap.size, 2, none⟩ = some (.slice (some ⟨b1, o1, none⟩) lvs.length lc) ∧ w'.cell? ⟨w.heap.size + 1, 2, none⟩ = some (.slice (some ⟨b2, o2, none⟩) lvs.length lc') ∧ w'.cell? ⟨b1, o1 + n, none⟩ = some (.slice (some ⟨b3, o3, none⟩) ns.length nc) ∧ w'.cell? ⟨b2, o2 + n, none⟩ = some (.slice (some ⟨b4, o4, none⟩) ns.length nc') ∧ w'.cell? ⟨b3, o3 + j, none⟩ = some (.slice xa y.length xc) ∧ w'.cell? ⟨b4, o4 + j, none⟩ = some (.slice xa' y.length xc'))) ∧ Kept No wr.drew w') := SW.out.mono (fun e w' ⟨he, k⟩ => ⟨he, ⟨k.cell s1.1 (fun e => e), k.cell s1.2.1 (fun e => e), k.cell s1.2.2.1 (fun e => e), k.cell s1.2.2.2.1 (fun e => e), k.cell s1.2.2.2.2.1 (fun e => e), k.cell s1.2.2.2.2.2 (fun e => e)⟩, k⟩)
                  clear d2 d5 e0 e1 e3 e4 SW
                  refine wp_region_held_drew (S := fun w' => (w'.cell? ⟨w.heap.size, 2, none⟩ = some (.slice (some ⟨b1, o1, none⟩) lvs.length lc) ∧ w'.cell? ⟨w.heap.size + 1, 2, none⟩ = some (.slice (some ⟨b2, o2, none⟩) lvs.length lc') ∧ w'.cell? ⟨b1, o1 + n, none⟩ = some (.slice (some ⟨b3, o3, none⟩) ns.length nc) ∧ w'.cell? ⟨b2, o2 + n, none⟩ = some (.slice (some ⟨b4, o4, none⟩) ns.length nc') ∧ w'.cell? ⟨b3, o3 + j, none⟩ = some (.slice xa y.length xc) ∧ w'.cell? ⟨b4, o4 + j, none⟩ = some (.slice xa' y.length xc'))) (by kernel_rfl) s1 (fun hS => ?_)
                  clear s1
                  refine d_take 0 100 rfl rfl (by kernel_rfl) (by kernel_rfl) (by kernel_rfl) (fun _ _ _ h => h) rfl (fun w' hw' => er_fO2 _ rfl w.heap.size rfl) hS ?_
                  simp only [Act.put, List.setIfInBounds_toArray, List.set_cons_zero, List.set_cons_succ]
                  refine d_take 1 101 rfl rfl (by kernel_rfl) (by kernel_rfl) (by kernel_rfl) (fun _ _ _ h => h) rfl (fun w' hw' => er_ldBB _ rfl w.heap.size 2 _ rfl hw'.1) hS ?_
                  simp only [Act.put, List.setIfInBounds_toArray, List.set_cons_zero, List.set_cons_succ]
                  refine d_take 2 102 rfl rfl (by kernel_rfl) (by kernel_rfl) (by kernel_rfl) (fun _ _ _ h => h) rfl (fun w' hw' => er_mv _ rfl (.int .i64 (n : Int)) rfl) hS ?_
                  simp only [Act.put, List.setIfInBounds_toArray, List.set_cons_zero, List.set_cons_succ]
                  refine d_take 3 103 rfl rfl (by kernel_rfl) (by kernel_rfl) (by kernel_rfl) (fun _ _ _ h => h) rfl (fun w' hw' => er_ixBB _ _ rfl b1 o1 n lvs.length lc rfl rfl hlt3) hS ?_
                  simp only [Act.put, List.setIfInBounds_toArray, List.set_cons_zero, List.set_cons_succ]
                  refine d_take 4 104 rfl rfl (by kernel_rfl) (by kernel_rfl) (by kernel_rfl) (fun _ _ _ h => h) rfl (fun w' hw' => er_ldLL _ rfl b1 (o1 + n) _ rfl hw'.2.2.1) hS ?_
                  simp only [Act.put, List.setIfInBounds_toArray, List.set_cons_zero, List.set_cons_succ]
                  refine d_take 5 105 rfl rfl (by kernel_rfl) (by kernel_rfl) (by kernel_rfl) (fun _ _ _ h => h) rfl (fun w' hw' => er_mv _ rfl (.int .i64 (j : Int)) rfl) hS ?_
                  simp only [Act.put, List.setIfInBounds_toArray, List.set_cons_zero, List.set_cons_succ]
                  refine d_take 6 106 rfl rfl (by kernel_rfl) (by kernel_rfl) (by kernel_rfl) (fun _ _ _ h => h) rfl (fun w' hw' => er_ixLL _ _ rfl b3 o3 j ns.length nc rfl rfl hlt4) hS ?_
                  simp only [Act.put, List.setIfInBounds_toArray, List.set_cons_zero, List.set_cons_succ]
                  refine d_take 7 107 rfl rfl (by kernel_rfl) (by kernel_rfl) (by kernel_rfl) (fun _ _ _ h => h) rfl (fun w' hw' => er_ldL _ rfl b3 (o3 + j) _ rfl hw'.2.2.2.2.1) hS ?_
                  simp only [Act.put, List.setIfInBounds_toArray, List.set_cons_zero, List.set_cons_succ]
                  refine d_take 8 108 rfl rfl (by kernel_rfl) (by kernel_rfl) (by kernel_rfl) (fun _ _ _ h => h) rfl (fun w' hw' => er_fO2 _ rfl (w.heap.size + 1) rfl) hS ?_
                  simp only [Act.put, List.setIfInBounds_toArray, List.set_cons_zero, List.set_cons_succ]
                  refine d_take 9 109 rfl rfl (by kernel_rfl) (by kernel_rfl) (by kernel_rfl) (fun _ _ _ h => h) rfl (fun w' hw' => er_ldBB _ rfl (w.heap.size + 1) 2 _ rfl hw'.2.1) hS ?_
                  simp only [Act.put, List.setIfInBounds_toArray, List.set_cons_zero, List.set_cons_succ]
                  refine d_take 10 110 rfl rfl (by kernel_rfl) (by kernel_rfl) (by kernel_rfl) (fun _ _ _ h => h) rfl (fun w' hw' => er_mv _ rfl (.int .i64 (n : Int)) rfl) hS ?_
                  simp only [Act.put, List.setIfInBounds_toArray, List.set_cons_zero, List.set_cons_succ]
                  refine d_take 11 111 rfl rfl (by kernel_rfl) (by kernel_rfl) (by kernel_rfl) (fun _ _ _ h => h) rfl (fun w' hw' => er_ixBB _ _ rfl b2 o2 n lvs.length lc' rfl rfl hlt3) hS ?_
                  simp only [Act.put, List.setIfInBounds_toArray, List.set_cons_zero, List.set_cons_succ]
                  refine d_take 12 112 rfl rfl (by kernel_rfl) (by kernel_rfl) (by kernel_rfl) (fun _ _ _ h => h) rfl (fun w' hw' => er_ldLL _ rfl b2 (o2 + n) _ rfl hw'.2.2.2.1) hS ?_
                  simp only [Act.put, List.setIfInBounds_toArray, List.set_cons_zero, List.set_cons_succ]
                  refine d_take 13 113 rfl rfl (by kernel_rfl) (by kernel_rfl) (by kernel_rfl) (fun _ _ _ h => h) rfl (fun w' hw' => er_mv _ rfl (.int .i64 (j : Int)) rfl) hS ?_
                  simp only [Act.put, List.setIfInBounds_toArray, List.set_cons_zero, List.set_cons_succ]
                  refine d_take 14 114 rfl rfl (by kernel_rfl) (by kernel_rfl) (by kernel_rfl) (fun _ _ _ h => h) rfl (fun w' hw' => er_ixLL _ _ rfl b4 o4 j ns.length nc' rfl rfl hlt4) hS ?_
                  simp only [Act.put, List.setIfInBounds_toArray, List.set_cons_zero, List.set_cons_succ]
                  refine d_take 15 115 rfl rfl (by kernel_rfl) (by kernel_rfl) (by kernel_rfl) (fun _ _ _ h => h) rfl (fun w' hw' => er_ldL _ rfl b4 (o4 + j) _ rfl hw'.2.2.2.2.2) hS ?_
                  simp only [Act.put, List.setIfInBounds_toArray, List.set_cons_zero, List.set_cons_succ]
                  refine d_callT (fun w' => Kept No wr.drew w') 16 116 (by kernel_rfl) rfl rfl rfl (er_c_sw _ _ _ _ rfl (.slice xa y.length xc) (.slice xa' y.length xc') rfl rfl) SC.out ?_
                  intro w7 hS k7
                  simp only [Act.put, List.setIfInBounds_toArray, List.set_cons_zero, List.set_cons_succ]
                  refine d_take 17 117 rfl rfl (by kernel_rfl) (by kernel_rfl) (by kernel_rfl) (fun _ _ _ h => h) rfl (fun w' hw' => er_not _ rfl true rfl) hS ?_
                  simp only [Act.put, List.setIfInBounds_toArray, List.set_cons_zero, List.set_cons_succ]
                  refine wpAnyH_done (by kernel_rfl) ?_ _
                  have K7 := hid (HK.out.drew.trans k7 (fun _ e => e.elim))
                  clear k7 hS SC
                  go_wp2
                  go_roundw
                  case rel => exact ⟨j + 1, by omega, by go_num, K7.out⟩
                  case measure => simp [intOf]; omega
                · have hltz4 : ¬ (j : Int) < (ns.length : Int) := by omega
                  clear kw
                  go_wp2
                  go_roundw
                  case rel => exact ⟨n + 1, by omega, by go_num, HK.out⟩
                  case measure => simp [intOf]; omega
            · have hltz3 : ¬ (n : Int) < (lvs.length : Int) := by omega
              have KW := hid kw
              clear kw
              go_wp2
              go_ret
              exact ⟨rfl, KW.out⟩
end Go.Proofs.Ytggkajopfbokjaa
