/-
  The document's Hyper; 'lives'.
-/
import Derived.Test.YtgjgaljdjkliaaaDoorCRef
import Derived.Test.YtgjgaljdjkliaaaDoorCHyp2
namespace Go.Proofs.YtgjgaljdjkliaaaDoor
open Go.RowKit Plain
set_option linter.unusedVariables false
set_option linter.unusedSimpArgs false
set_option maxRecDepth 100000

set_option maxHeartbeats 4000000 in
theorem rhyper_any (F : Nat → Prop) (a : Option Addr) (n c : Nat) (xs : List Srv) (w : World) (h : Sv w F a n c xs) (hn : n ≤ 70000) :
    Calls Tryd.prog 14 #[.slice a n c] w fun e w' => e = .returned (.tuple #[.int .i64 (lcmV (zP xs) n 1048576), .bool (lcmB (zP xs) n 1048576)]) ∧ Kept No w w' := by
  obtain ⟨i0, hi, hz0, hz1, hz2⟩ := info_parts Tryd.infoL
  have H : Hid (Sv w F a n c xs) := h
  obtain ⟨z1, hz1'⟩ : ∃ z, z = lcmV (zP xs) n 1048576 := ⟨_, rfl⟩
  obtain ⟨z2, hz2'⟩ : ∃ z, z = lcmB (zP xs) n 1048576 := ⟨_, rfl⟩
  rw [← hz1', ← hz2']
  have HZ1 : Hid (z1 = lcmV (zP xs) n 1048576) := hz1'
  have HZ2 : Hid (z2 = lcmB (zP xs) n 1048576) := hz2'
  have hz1b : -9223372036854775808 ≤ z1 ∧ z1 ≤ 9223372036854775807 := by have := lcm_bd xs n; rw [hz1']; omega
  clear h hz1' hz2'
  go_enter Tryd.func14, Tryd.ntmps14
  go_wp2
  go_loopw [4, 5] (fun v x wr => ∃ k : Nat, k ≤ n ∧ x = .int .i64 k ∧ Kept No w wr ∧ wr.ownsRow w.heap.size 2 1 v k ((psP xs k).map iv)) (fun _ x _ => n - (intOf x).toNat)
  case atStart => exact ⟨0, by omega, rfl, Kept.refl No w, ⟨rfl, .inl ⟨rfl, rfl⟩⟩⟩
  case round =>
    obtain ⟨k, hk, rfl, hkr, hown⟩ := hrel
    by_cases hlt : k < n
    · have hx : xs[k]? = some (xs.getD k ⟨0, 0, 0, 0⟩) := by rw [List.getD, List.getElem?_eq_getElem (by rw [H.out.len]; exact hlt)]; rfl
      obtain ⟨hok, b, o, rfl, hb, c0, c1, c2, c3⟩ := (H.out.keep hkr).at' k _ hx
      have HNX : Hid ((psP xs (k + 1)).map iv = (psP xs k).map iv ++ [.int .i64 (xs.getD k ⟨0, 0, 0, 0⟩).p]) := psP_succ xs k
      have hyp : -9223372036854775808 ≤ (xs.getD k ⟨0, 0, 0, 0⟩).p ∧ (xs.getD k ⟨0, 0, 0, 0⟩).p ≤ 9223372036854775807 := hok.1
      clear hx hok
      generalize (psP xs k).map iv = L0 at *
      generalize xs.getD k ⟨0, 0, 0, 0⟩ = y at *
      obtain ⟨yp, yb, yo, yq⟩ := y
      simp only at c0 c1 c2 c3 HNX hyp
      have HOW : Hid (wr.ownsRow w.heap.size 2 1 u4 k L0) := hown
      have HKR : Hid (Kept No w wr) := hkr
      clear hown hkr
      go_wp2_with (at_builtin; refine wpList_append_own_at _ rfl _ _ 54 rfl w.heap.size 2 i0 (.int .i64 0) 1 8 Tryd.underlying54 hi hz0 hz1 hz2 rfl (by decide) _ _ _ rfl (HOW.out.alloc _) ⟨wr.heap.size, 0, none⟩ 1 1 [.int .i64 yp] rfl rfl (cell_one_new _ _ _) (one_one _ _) (by unfold maxLen; omega) (by omega) (by have := HKR.out.size; simp; omega) ?_; intro v1 w6 own1 grow1 _ at1)
      have HK6 : Hid (Kept No w w6 ∧ w6.ownsRow w.heap.size 2 1 v1 (k + 1) ((psP xs (k + 1)).map iv)) := by
        exact ⟨(HKR.out.alloc _).grown grow1 (fun g e => .inr (HOW.out.lt g e).1), by rw [HNX.out]; exact own1⟩
      clear own1 grow1 at1
      go_wp2
      go_roundw
      case rel => exact ⟨k + 1, by omega, by go_num, HK6.out.1, HK6.out.2⟩
      case measure => simp [intOf]; omega
    · have hke : k = n := by omega
      subst hke
      obtain ⟨sa, sc, rfl, hrow⟩ := row_of wr w.heap.size 2 u4 xs k hown (fun i hi => by
        have hx : xs[i]? = some (xs.getD i ⟨0, 0, 0, 0⟩) := by rw [List.getD, List.getElem?_eq_getElem (by rw [H.out.len]; exact hi)]; rfl
        exact (H.out.at' i _ hx).1.1)
      have hc := rlcm_any sa k sc (zP xs) 1048576 wr (by omega) (by unfold I64; omega) hrow
      have HKR : Hid (Kept No w wr) := hkr
      clear hown hkr hrow
      rw [← HZ1.out, ← HZ2.out] at hc
      go_wp2_with (go_at_call 23; refine hc.mono ?_; rintro e w2 ⟨rfl, nn, rfl⟩)
      go_ret2
      exact ⟨rfl, HKR.out.drewN _⟩

theorem fe_of {xs : List Srv} {n : Nat} {p : Int × Int} (h : findF xs n = some p) : p.1 = 100 ∨ p.1 = 101 := by
  unfold findF at h
  by_cases h32 : n ≤ 32
  · rw [if_pos h32, servF_ok] at h
    have key : ∀ m, eachF (fun i => if okF xs i then 0 else 101) 1 m = some p → p.1 = 101 := by
      intro m
      induction m with
      | zero => intro h; cases h
      | succ m ih =>
        intro h
        rw [eachF] at h
        cases he : eachF (fun i => if okF xs i then 0 else 101) 1 m with
        | some q => rw [he] at h; cases h; exact ih he
        | none =>
          rw [he] at h
          cases ho : okF xs m
          · simp [ho] at h; rw [← h]
          · simp [ho] at h
    exact .inr (key n h)
  · rw [if_neg h32] at h; cases h; exact .inl rfl

set_option maxHeartbeats 4000000 in
theorem rHyper_any (F : Nat → Prop) (a : Option Addr) (n c : Nat) (xs : List Srv) (w : World) (h : Sv w F a n c xs) :
    Calls Tryd.prog 8 #[.slice a n c] w fun e w' => e = .returned (.tuple #[.int .i64 (hyV xs n), .int .i64 (hyE xs n)]) ∧ Kept No w w' := by
  have hc := rservers_any F a n c xs w h
  cases hf : findF xs n with
  | some p =>
    have ht : timF xs n = some p := by unfold timF; rw [hf]
    rw [show hyV xs n = 0 by unfold hyV; rw [ht], show hyE xs n = p.1 by unfold hyE; rw [ht]]
    have hp := fe_of hf
    rw [hf] at hc
    simp only [fe, fn] at hc
    obtain ⟨px, py⟩ := p
    simp only at hp hc ⊢
    have hne : ¬ px = 0 := by omega
    clear hf h ht hp
    go_enter Tryd.func8, Tryd.ntmps8
    go_wp2_with (go_at_call 6; refine hc.mono ?_; rintro e w1 ⟨rfl, hk1⟩; have HK1 : Hid (Kept No w w1) := hk1; clear hk1)
    go_ret2
    exact ⟨rfl, HK1.out⟩
  | none =>
    obtain ⟨hn, hp⟩ := findF_none hf
    have ht : timF xs n = togF xs n := by unfold timF; rw [hf]
    rw [hf] at hc
    simp only [fe, fn] at hc
    have H : Hid (Sv w F a n c xs) := h
    have HP : Hid (∀ i, i < n → 1 ≤ zP xs i) := fun i hi => (hp i hi).1
    have H2 : Hid (∀ w', Kept No w w' → Calls Tryd.prog 14 #[.slice a n c] w' fun e w' => e = .returned (.tuple #[.int .i64 (lcmV (zP xs) n 1048576), .bool (lcmB (zP xs) n 1048576)]) ∧ Kept No w w') := fun w' hw => (rhyper_any F a n c xs w' (h.keep hw) (by omega)).mono (fun e w2 he => ⟨he.1, hw.trans he.2 (fun _ h => h.elim)⟩)
    cases hB : lcmB (zP xs) n 1048576
    · have ht2 : timF xs n = some (102, 0) := by rw [ht]; unfold togF; rw [hB]; rfl
      rw [show hyV xs n = 0 by unfold hyV; rw [ht2], show hyE xs n = 102 by unfold hyE; rw [ht2]]
      rw [hB] at H2
      clear hf h ht ht2 hp hB
      generalize lcmV (zP xs) n 1048576 = z1 at *
      go_enter Tryd.func8, Tryd.ntmps8
      go_wp2_with (first
        | (go_at_call 6; refine hc.mono ?_; rintro e w1 ⟨rfl, hk1⟩; have HK1 : Hid (Kept No w w1) := hk1; have hc2 := H2.out w1 hk1; clear hk1)
        | (go_at_call 14; refine hc2.mono ?_; rintro e w2 ⟨rfl, hk1⟩; have HK2 : Hid (Kept No w w2) := hk1; clear hk1))
      go_ret2
      exact ⟨rfl, HK2.out⟩
    · obtain ⟨l0, l1⟩ := lcm_bd xs n
      rw [hB] at H2
      have HV : Hid (relF (lcmV (zP xs) n 1048576) xs n ≤ 65536 → hyV xs n = lcmV (zP xs) n 1048576 ∧ hyE xs n = 0) := fun hle => by
        have ht2 : timF xs n = none := by rw [ht]; unfold togF; rw [hB, if_pos hle]; rfl
        exact ⟨by unfold hyV; rw [ht2], by unfold hyE; rw [ht2]⟩
      have HV2 : Hid (¬ relF (lcmV (zP xs) n 1048576) xs n ≤ 65536 → hyV xs n = 0 ∧ hyE xs n = 103) := fun hle => by
        have ht2 : timF xs n = some (103, 0) := by rw [ht]; unfold togF; rw [hB, if_neg hle]; rfl
        exact ⟨by unfold hyV; rw [ht2], by unfold hyE; rw [ht2]⟩
      clear hf h ht hp hB
      generalize lcmV (zP xs) n 1048576 = z1 at *
      generalize hyV xs n = r1 at *
      generalize hyE xs n = r2 at *
      have HBD : Hid (∀ k, k ≤ n → 0 ≤ relF z1 xs k ∧ relF z1 xs k ≤ k * 2097152) := fun k hk => relF_bd (xs := xs) l0 l1 k (fun i hi => HP.out i (by omega))
      go_enter Tryd.func8, Tryd.ntmps8
      go_wp2_with (first
        | (go_at_call 6; refine hc.mono ?_; rintro e w1 ⟨rfl, hk1⟩; have HK1 : Hid (Kept No w w1) := hk1; have hc2 := H2.out w1 hk1; clear hk1)
        | (go_at_call 14; refine hc2.mono ?_; rintro e w2 ⟨rfl, hk1⟩; have HK2 : Hid (Kept No w w2) := hk1; clear hk1))
      clear hc hc2 H2 HK1
      go_loopw [8, 9] (fun v x wr => ∃ k : Nat, k ≤ n ∧ x = .int .i64 k ∧ Kept No w wr ∧ v = .int .i64 (relF z1 xs k)) (fun _ x _ => n - (intOf x).toNat)
      case atStart => exact ⟨0, by omega, rfl, HK2.out, rfl⟩
      case round =>
        clear HK2
        obtain ⟨k, hk, rfl, hkr, rfl⟩ := hrel
        by_cases hlt : k < n
        · have hx : xs[k]? = some (xs.getD k ⟨0, 0, 0, 0⟩) := by rw [List.getD, List.getElem?_eq_getElem (by rw [H.out.len]; exact hlt)]; rfl
          obtain ⟨hok, b, o, rfl, hb, c0, c1, c2, c3⟩ := (H.out.keep hkr).at' k _ hx
          have hpk : 1 ≤ (xs.getD k ⟨0, 0, 0, 0⟩).p := HP.out k hlt
          have HS : Hid (relF z1 xs (k + 1) = relF z1 xs k + (2 * z1) / (xs.getD k ⟨0, 0, 0, 0⟩).p) := rfl
          have hpm : (xs.getD k ⟨0, 0, 0, 0⟩).p ≤ 9223372036854775807 := hok.1.2
          obtain ⟨r0, r1⟩ := HBD.out k hk
          have r2 : relF z1 xs k ≤ 67108864 := by
            have : (k : Int) * 2097152 ≤ 67108864 := by omega
            omega
          have HKR : Hid (Kept No w wr) := hkr
          clear hx hok hkr r1
          generalize xs.getD k ⟨0, 0, 0, 0⟩ = y at *
          obtain ⟨yp, yb, yo, yq⟩ := y
          simp only at c0 c1 c2 c3 HS hpk hpm
          generalize relF z1 xs k = rk at *
          have hd0 : 0 ≤ (2 * z1) / yp := Int.ediv_nonneg (by omega) (by omega)
          have hd1 : (2 * z1) / yp ≤ 2 * z1 := Int.ediv_le_self _ (by omega)
          go_wp2
          go_roundw
          case rel => exact ⟨k + 1, by omega, by go_num, HKR.out, by rw [HS.out]⟩
          case measure => simp [intOf]; omega
        · have hke : k = n := by omega
          subst hke
          have HKR : Hid (Kept No w wr) := hkr
          clear hkr
          by_cases hle : relF z1 xs k ≤ 65536
          · obtain ⟨e1, e2⟩ := HV.out hle
            have HE : Hid (r1 = z1 ∧ r2 = 0) := ⟨e1, e2⟩
            clear e1 e2
            generalize relF z1 xs k = rk at *
            go_wp2
            go_ret2
            exact ⟨by rw [HE.out.1, HE.out.2]; rfl, HKR.out⟩
          · obtain ⟨e1, e2⟩ := HV2.out (by omega)
            have HE : Hid (r1 = 0 ∧ r2 = 103) := ⟨e1, e2⟩
            clear e1 e2
            generalize relF z1 xs k = rk at *
            go_wp2
            go_ret2
            exact ⟨by rw [HE.out.1, HE.out.2]; rfl, HKR.out⟩
end Go.Proofs.YtgjgaljdjkliaaaDoor
