/-
  sameParts.
-/
import Derived.Test.YtdohjhhflfnncaaDoorFFr
namespace Go.Proofs.YtdohjhhflfnncaaDoor
open Go.RowKit
set_option linter.unusedVariables false
set_option maxRecDepth 100000

set_option maxHeartbeats 8000000 in
theorem sameParts_any {F G H : Nat → Prop} {a b a1 a2 za : Option Addr} {c d n n1 c1 n2 c2 zn zc : Nat} {AS BS : List (Array Value)} {zs : List Int} (w : World) (h : Pp w F G a c b d n AS BS) (hn : n ≤ 1000000) (hz : Zs w H za zn zc zs) (hin : ∀ z ∈ zs, ∃ k : Nat, k < n ∧ z = (k : Int) + 1) (sm : Nat → Bool)
    (hsm : ∀ (i : Nat) (A B : Array Value), AS[i]? = some A → BS[i]? = some B → (i : Int) + 1 ∈ zs → ∀ W, Kept No w W → Calls Tryd.prog 28 #[.agg A, .agg B] W fun e W' => e = .returned (.bool (sm i)) ∧ Kept No W W') :
    Calls Tryd.prog 15 #[.agg #[.slice a n c, .slice a1 n1 c1, .slice a2 n2 c2], .agg #[.slice b n d, .slice a1 n1 c1, .slice a2 n2 c2], .slice za zn zc] w fun e w' => e = .returned (.bool (zs.all (fun z => sm (z - 1).toNat))) ∧ Kept No w w' := by
  have k1 : Kept No w ((w.alloc (.cells #[.slice a n c, .slice a1 n1 c1, .slice a2 n2 c2] 26)).alloc (.cells #[.slice b n d, .slice a1 n1 c1, .slice a2 n2 c2] 26)) := ((Kept.refl No w).alloc _).alloc _
  have b0 : ((w.alloc (.cells #[.slice a n c, .slice a1 n1 c1, .slice a2 n2 c2] 26)).alloc (.cells #[.slice b n d, .slice a1 n1 c1, .slice a2 n2 c2] 26)).heap[w.heap.size]? = some (.cells #[.slice a n c, .slice a1 n1 c1, .slice a2 n2 c2] 26) := ((Kept.refl No _).alloc _).at' (alloc_new w _) (fun h => h)
  have b1 : ((w.alloc (.cells #[.slice a n c, .slice a1 n1 c1, .slice a2 n2 c2] 26)).alloc (.cells #[.slice b n d, .slice a1 n1 c1, .slice a2 n2 c2] 26)).heap[w.heap.size + 1]? = some (.cells #[.slice b n d, .slice a1 n1 c1, .slice a2 n2 c2] 26) := by
    have := alloc_new (w.alloc (.cells #[.slice a n c, .slice a1 n1 c1, .slice a2 n2 c2] 26)) (.cells #[.slice b n d, .slice a1 n1 c1, .slice a2 n2 c2] 26)
    rw [World.size_alloc] at this
    exact this
  have hzl := hz.len
  have hzc := hz.cap
  have hzm := hz.max
  obtain ⟨V, hV⟩ : ∃ V, V = zs.all (fun z => sm (z - 1).toNat) := ⟨_, rfl⟩
  rw [← hV]
  have HH : Hid (Pp w F G a c b d n AS BS ∧ Zs w H za zn zc zs ∧ (∀ z ∈ zs, ∃ k : Nat, k < n ∧ z = (k : Int) + 1) ∧ (∀ (i : Nat) (A B : Array Value), AS[i]? = some A → BS[i]? = some B → (i : Int) + 1 ∈ zs → ∀ W, Kept No w W → Calls Tryd.prog 28 #[.agg A, .agg B] W fun e W' => e = .returned (.bool (sm i)) ∧ Kept No W W') ∧ zs.length = zn ∧ V = zs.all (fun z => sm (z - 1).toNat)) := ⟨h, hz, hin, hsm, hzl, hV⟩
  clear h hz hin hsm hzl hV
  go_enter Tryd.func15, Tryd.ntmps15
  go_upto_region 1 with fail
  generalize (w.alloc (.cells #[.slice a n c, .slice a1 n1 c1, .slice a2 n2 c2] 26)).alloc (.cells #[.slice b n d, .slice a1 n1 c1, .slice a2 n2 c2] 26) = w0 at *
  obtain ⟨q0, hq0⟩ : ∃ q0, w.heap.size = q0 := ⟨_, rfl⟩
  obtain ⟨q1, hq1⟩ : ∃ q1, q0 + 1 = q1 := ⟨_, rfl⟩
  rw [hq0] at b0 b1 ⊢
  rw [hq1] at b1 ⊢
  clear hq0 hq1
  have HB : Hid (w0.heap[q0]? = some (.cells #[.slice a n c, .slice a1 n1 c1, .slice a2 n2 c2] 26) ∧ w0.heap[q1]? = some (.cells #[.slice b n d, .slice a1 n1 c1, .slice a2 n2 c2] 26) ∧ Kept No w w0) := ⟨b0, b1, k1⟩
  clear b0 b1 k1
  go_wp2
  go_loopw [11] (fun y wr => ∃ j : Nat, y = .int .i64 j ∧ j ≤ zn ∧ wr.heap[q0]? = some (.cells #[.slice a n c, .slice a1 n1 c1, .slice a2 n2 c2] 26) ∧ wr.heap[q1]? = some (.cells #[.slice b n d, .slice a1 n1 c1, .slice a2 n2 c2] 26) ∧ Kept No w wr ∧ (zs.take j).all (fun z => sm (z - 1).toNat) = true) (fun y _ => zn - (intOf y).toNat)
  case atStart => exact ⟨0, rfl, Nat.zero_le _, HB.out.1, HB.out.2.1, HB.out.2.2, rfl⟩
  case round =>
    obtain ⟨j, rfl, hj, hb0, hb1, hk, hal⟩ := hrel
    by_cases hlt : j < zn
    · have hjz : (j : Int) < (zn : Int) := by omega
      obtain ⟨zb, zo, rfl, _, hzl⟩ := HH.out.2.1.at' j hlt
      have hgz : zs[j]? = some (zs.getD j 0) := by simp [List.getD, show j < zs.length by rw [HH.out.2.2.2.2.1]; exact hlt]
      obtain ⟨k, hkn, hke⟩ := HH.out.2.2.1 _ (List.mem_of_getElem? hgz)
      rw [hke] at hzl hgz
      have hzcl := hk.cell hzl (fun h => h)
      unfold iv at hzcl
      obtain ⟨A, hA⟩ : ∃ A, AS[k]? = some A := ⟨_, List.getElem?_eq_getElem (by rw [HH.out.1.la.len]; exact hkn)⟩
      obtain ⟨B, hB⟩ : ∃ B, BS[k]? = some B := ⟨_, List.getElem?_eq_getElem (by rw [HH.out.1.lb.len]; exact hkn)⟩
      obtain ⟨pb, po, cs, rfl, _, _, hr, ⟨rfl, hsz, _⟩⟩ := HH.out.1.la.at' k A hA
      obtain ⟨pb', po', cs', rfl, _, _, hr', ⟨rfl, hsz', _⟩⟩ := HH.out.1.lb.at' k B hB
      have htk : (zs.take (j + 1)).all (fun z => sm (z - 1).toNat) = sm k := by rw [take_succ_get hgz, List.all_append, hal]; simp
      have HR : Hid (w.rangeAt pb (po + k * 21) A.toList ∧ w.rangeAt pb' (po' + k * 21) B.toList ∧ A.size = 21 ∧ B.size = 21) := ⟨hr, hr', hsz, hsz'⟩
      have HT : Hid ((zs.take (j + 1)).all (fun z => sm (z - 1).toNat) = sm k ∧ zs[j]? = some ((k : Int) + 1)) := ⟨htk, hgz⟩
      have HC : Hid (∀ W, Kept No w W → Calls Tryd.prog 28 #[.agg A, .agg B] W fun e W' => e = .returned (.bool (sm k)) ∧ Kept No W W') := fun W K => HH.out.2.2.2.1 k A B hA hB (List.mem_of_getElem? hgz) W K
      have HS0 : Hid ((fun W : World => W.heap[q0]? = some (.cells #[.slice (some ⟨pb, po, none⟩) n c, .slice a1 n1 c1, .slice a2 n2 c2] 26) ∧ W.heap[q1]? = some (.cells #[.slice (some ⟨pb', po', none⟩) n d, .slice a1 n1 c1, .slice a2 n2 c2] 26) ∧ Kept No w W) wr) := ⟨hb0, hb1, hk⟩
      clear hr hr' hsz hsz' htk hgz hke hA hB hb0 hb1 hk hal hzl
      go_upto_region 4 with fail
      refine wp_region_held_drew (S := fun W : World => W.heap[q0]? = some (.cells #[.slice (some ⟨pb, po, none⟩) n c, .slice a1 n1 c1, .slice a2 n2 c2] 26) ∧ W.heap[q1]? = some (.cells #[.slice (some ⟨pb', po', none⟩) n d, .slice a1 n1 c1, .slice a2 n2 c2] 26) ∧ Kept No w W) (by kernel_rfl) ⟨HS0.out.1, HS0.out.2.1, HS0.out.2.2.drew⟩ (fun hS => ?_)
      refine d_take 0 15 rfl rfl (by kernel_rfl) (by kernel_rfl) (by kernel_rfl) (fun _ _ _ h => h) rfl (fun w' hw' => er_fI0 _ rfl q0 rfl) hS ?_
      simp only [Act.put, List.setIfInBounds_toArray, List.set_cons_zero, List.set_cons_succ]
      refine d_take 1 16 rfl rfl (by kernel_rfl) (by kernel_rfl) (by kernel_rfl) (fun _ _ _ h => h) rfl (fun w' hw' => er_ldSP _ rfl q0 0 (.slice (some ⟨pb, po, none⟩) n c) rfl (three hw'.1).1) hS ?_
      simp only [Act.put, List.setIfInBounds_toArray, List.set_cons_zero, List.set_cons_succ]
      refine d_take 2 17 rfl rfl (by kernel_rfl) (by kernel_rfl) (by kernel_rfl) (fun _ _ _ h => h) rfl (fun w' hw' => er_mv _ rfl (.int .i64 ((k : Int) + 1)) rfl) hS ?_
      simp only [Act.put, List.setIfInBounds_toArray, List.set_cons_zero, List.set_cons_succ]
      refine d_take 3 18 rfl rfl (by kernel_rfl) (by kernel_rfl) (by kernel_rfl) (fun _ _ _ h => h) rfl (fun w' hw' => er_sub _ _ rfl ((k : Int) + 1) 1 (k : Int) rfl rfl (by omega) (by omega)) hS ?_
      simp only [Act.put, List.setIfInBounds_toArray, List.set_cons_zero, List.set_cons_succ]
      refine d_take 4 19 rfl rfl (by kernel_rfl) (by kernel_rfl) (by kernel_rfl) (fun _ _ _ h => h) rfl (fun w' hw' => er_ixSP _ _ rfl pb po k n c rfl rfl hkn) hS ?_
      simp only [Act.put, List.setIfInBounds_toArray, List.set_cons_zero, List.set_cons_succ]
      refine d_take 5 20 rfl rfl (by kernel_rfl) (by kernel_rfl) (by kernel_rfl) (fun _ _ _ h => h) rfl (fun w' hw' => er_ldX 37 _ rfl (.pointer (some ⟨pb, po + k * 21, none⟩)) (.agg A) rfl (ldA (rangeAt_kept HR.out.1 hw'.2.2 (fun h => h)) HR.out.2.2.1)) hS ?_
      simp only [Act.put, List.setIfInBounds_toArray, List.set_cons_zero, List.set_cons_succ]
      refine d_take 6 21 rfl rfl (by kernel_rfl) (by kernel_rfl) (by kernel_rfl) (fun _ _ _ h => h) rfl (fun w' hw' => er_fI0 _ rfl q1 rfl) hS ?_
      simp only [Act.put, List.setIfInBounds_toArray, List.set_cons_zero, List.set_cons_succ]
      refine d_take 7 22 rfl rfl (by kernel_rfl) (by kernel_rfl) (by kernel_rfl) (fun _ _ _ h => h) rfl (fun w' hw' => er_ldSP _ rfl q1 0 (.slice (some ⟨pb', po', none⟩) n d) rfl (three hw'.2.1).1) hS ?_
      simp only [Act.put, List.setIfInBounds_toArray, List.set_cons_zero, List.set_cons_succ]
      refine d_take 8 23 rfl rfl (by kernel_rfl) (by kernel_rfl) (by kernel_rfl) (fun _ _ _ h => h) rfl (fun w' hw' => er_mv _ rfl (.int .i64 ((k : Int) + 1)) rfl) hS ?_
      simp only [Act.put, List.setIfInBounds_toArray, List.set_cons_zero, List.set_cons_succ]
      refine d_take 9 24 rfl rfl (by kernel_rfl) (by kernel_rfl) (by kernel_rfl) (fun _ _ _ h => h) rfl (fun w' hw' => er_sub _ _ rfl ((k : Int) + 1) 1 (k : Int) rfl rfl (by omega) (by omega)) hS ?_
      simp only [Act.put, List.setIfInBounds_toArray, List.set_cons_zero, List.set_cons_succ]
      refine d_take 10 25 rfl rfl (by kernel_rfl) (by kernel_rfl) (by kernel_rfl) (fun _ _ _ h => h) rfl (fun w' hw' => er_ixSP _ _ rfl pb' po' k n d rfl rfl hkn) hS ?_
      simp only [Act.put, List.setIfInBounds_toArray, List.set_cons_zero, List.set_cons_succ]
      refine d_take 11 26 rfl rfl (by kernel_rfl) (by kernel_rfl) (by kernel_rfl) (fun _ _ _ h => h) rfl (fun w' hw' => er_ldX 37 _ rfl (.pointer (some ⟨pb', po' + k * 21, none⟩)) (.agg B) rfl (ldA (rangeAt_kept HR.out.2.1 hw'.2.2 (fun h => h)) HR.out.2.2.2)) hS ?_
      simp only [Act.put, List.setIfInBounds_toArray, List.set_cons_zero, List.set_cons_succ]
      refine d_callT (fun _ => True) 12 27 (by kernel_rfl) rfl rfl rfl (ec_sp _ _ rfl (.agg A) (.agg B) rfl rfl) ((HC.out _ hS.2.2).mono (fun e W' ⟨he, K⟩ => ⟨he, ⟨K.at' hS.1 (fun h => h), K.at' hS.2.1 (fun h => h), hS.2.2.trans K (fun _ h => .inl h)⟩, trivial⟩)) (fun w5 hS5 _ => ?_)
      simp only [Act.put, List.setIfInBounds_toArray, List.set_cons_zero, List.set_cons_succ]
      refine d_take 13 28 rfl rfl (by kernel_rfl) (by kernel_rfl) (by kernel_rfl) (fun _ _ _ h => h) rfl (fun w' hw' => er_not _ rfl (sm k) rfl) hS5 ?_
      simp only [Act.put, List.setIfInBounds_toArray, List.set_cons_zero, List.set_cons_succ]
      refine wpAnyH_done (by kernel_rfl) ?_ _
      have H5 := hid hS5
      clear hS hS5 hzcl
      cases hb : sm k with
      | true =>
        rw [hb] at HT
        clear hb
        go_wp2
        go_roundw
        case rel => exact ⟨j + 1, by go_num, by omega, H5.out.1, H5.out.2.1, H5.out.2.2, HT.out.1⟩
        case measure => simp [intOf]; omega
      | false =>
        rw [hb] at HT
        have hVf : V = false := by
          rw [HH.out.2.2.2.2.2]
          have hm := List.mem_of_getElem? HT.out.2
          cases hall : zs.all (fun z => sm (z - 1).toNat) with
          | false => rfl
          | true =>
            have := List.all_eq_true.1 hall _ hm
            rw [show ((k : Int) + 1 - 1).toNat = k by omega, hb] at this
            cases this
        have HVF := hid hVf
        clear hb hVf
        go_wp2
        go_ret
        exact ⟨by rw [HVF.out]; rfl, H5.out.2.2⟩
    · have hjz : ¬ (j : Int) < (zn : Int) := by omega
      have hVt : V = true := by
        rw [HH.out.2.2.2.2.2]
        rw [List.take_of_length_le (by rw [HH.out.2.2.2.2.1]; omega)] at hal
        exact hal
      have HK := hid hk
      clear hal hb0 hb1 hk
      have HVT := hid hVt
      clear hVt
      go_wp2
      go_ret
      exact ⟨by rw [HVT.out]; rfl, HK.out⟩
end Go.Proofs.YtdohjhhflfnncaaDoor
