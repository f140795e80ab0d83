/-
  same; works.
-/
import Derived.Test.YthdmbikmjimmkaaGreatDoorZSh
namespace Go.Proofs.YthdmbikmjimmkaaGreatDoor
open Go.RowKit Go.Shelf Plain
set_option linter.unusedVariables false
set_option linter.unusedSimpArgs false
set_option maxRecDepth 100000

set_option maxHeartbeats 4000000 in
theorem same_yes {g1 g2 n c1 c2 : Nat} {f f' : Nat → Int} (w : World) (h1 : Cw w g1 n f) (h2 : Cw w g2 n f') (he : ∀ i, i < n → f i = f' i) (hn : n ≤ 1000) :
    Calls Tryz.prog 13 #[.slice (some ⟨g1, 0, none⟩) n c1, .slice (some ⟨g2, 0, none⟩) n c2] w fun e w' => e = .returned (.bool true) ∧ Kept No w w' := by
  have HA : Hid (Cw w g1 n f ∧ Cw w g2 n f') := ⟨h1, h2⟩
  have HE := hid he
  have hn2 : (n : Int) ≤ 1000 := by omega
  have hnn : ((n : Int) != (n : Int)) = false := by simp
  clear h1 h2 he
  go_enter Tryz.func13, Tryz.ntmps13
  go_wp2
  go_loopw [5] (fun x wr => ∃ k : Nat, x = .int .i64 k ∧ k ≤ n ∧ Kept No w wr) (fun x _ => n - (intOf x).toNat)
  case atStart => exact ⟨0, rfl, Nat.zero_le _, Kept.refl _ _⟩
  case round =>
    obtain ⟨k, rfl, hk, kd⟩ := hrel
    have HKD := hid kd
    by_cases hlt : k < n
    · have hkn : (k : Int) < (n : Int) := by omega
      have c1 := (HA.out.1.keep kd).at' k hlt
      have c2 := (HA.out.2.keep kd).at' k hlt
      rw [← HE.out k hlt] at c2
      have hv : (f k != f k) = false := by simp
      generalize f k = v at *
      clear kd
      go_upto_region 6 with fail
      go_quiet (fail)
      go_wp2
      go_roundw
      case rel => exact ⟨k + 1, by go_num, by omega, HKD.out.drewN _⟩
      case measure => simp [intOf]; omega
    · have e : n = k := by omega
      subst e
      go_wp2
      go_ret
      exact ⟨rfl, HKD.out⟩
def w3s : List Srv := [⟨3, 1, 0, 1⟩, ⟨3, 1, 0, 2⟩, ⟨3, 1, 0, 3⟩]
theorem w3_tim : timF w3s 3 = none := by decide +kernel
theorem w3_hyp : hyp w3s = 3 := by decide +kernel
theorem w3_us : ∀ i, i < 4 → usF w3s 3 6 i = if i = 0 then 0 else 1 := by decide +kernel
theorem w3_lf : lfS (usF w3s 3 6) 3 4 = 1 := by decide +kernel
theorem w3_lo : ∀ i, i < 4 → loS (usF w3s 3 6) 3 i = if i = 0 then 0 else 333333 := by decide +kernel
theorem w3_rm : ∀ i, i < 4 → rmK (usF w3s 3 6) 3 i = if i = 0 then 0 else 1 := by decide +kernel
theorem w3_first {D : Nat → Nat} (hp : Pm 0 4 (fun i => i) D) (hs : So (rmK (usF w3s 3 6) 3) 0 4 D) : D 0 = 1 := by
  have hm : ∀ t, t < 4 → D t < 4 := fun t ht => by
    obtain ⟨s, _, s2, e⟩ := hp.mem t (Nat.zero_le _) ht
    rw [e]; exact s2
  have hi : ∀ s t, s < 4 → t < 4 → s ≠ t → D s ≠ D t := fun s t h1 h2 h3 e => h3 (hp.inj (fun _ _ _ _ _ _ e => e) s t (Nat.zero_le _) h1 (Nat.zero_le _) h2 e)
  have i01 := hi 0 1 (by omega) (by omega) (by omega)
  have i02 := hi 0 2 (by omega) (by omega) (by omega)
  have i03 := hi 0 3 (by omega) (by omega) (by omega)
  have i12 := hi 1 2 (by omega) (by omega) (by omega)
  have i13 := hi 1 3 (by omega) (by omega) (by omega)
  have i23 := hi 2 3 (by omega) (by omega) (by omega)
  have m0 := hm 0 (by omega)
  have m1 := hm 1 (by omega)
  have m2 := hm 2 (by omega)
  have m3 := hm 3 (by omega)
  have s01 := hs 0 1 (by omega) (by omega) (by omega)
  have s02 := hs 0 2 (by omega) (by omega) (by omega)
  have s03 := hs 0 3 (by omega) (by omega) (by omega)
  unfold ltK at s01 s02 s03
  rw [w3_rm _ m0, w3_rm _ m1] at s01
  rw [w3_rm _ m0, w3_rm _ m2] at s02
  rw [w3_rm _ m0, w3_rm _ m3] at s03
  by_cases h0 : D 0 = 0
  · rw [if_pos h0] at s01
    rw [if_neg (show ¬ D 1 = 0 by omega)] at s01
    omega
  · rw [if_neg h0] at s01 s02 s03
    split at s01 <;> split at s02 <;> split at s03 <;> omega

set_option maxHeartbeats 4000000 in
theorem works_any (w : World) (hg : Gl w) : Calls Tryz.prog 5 #[] w fun e w' => e = .returned (.bool true) ∧ Kept No w w' := by
  have HS : Hid (∀ t, Calls Tryz.prog 12 #[.slice (some ⟨w.heap.size, 0, none⟩) 3 3] (w.alloc (.cells #[.int .i64 3, .int .i64 1, .int .i64 0, .int .i64 1, .int .i64 3, .int .i64 1, .int .i64 0, .int .i64 2, .int .i64 3, .int .i64 1, .int .i64 0, .int .i64 3] t)) fun e w' => ∃ g, e = .returned (.tuple #[.slice (some ⟨g, 0, none⟩) 4 4, .int .i64 0]) ∧ Cw w' g 4 (fun i => if i = 0 then 0 else if i = 1 then 333334 else 333333) ∧ Kept No w w') := by
    intro t
    obtain ⟨w1, hw1⟩ : ∃ w1, w1 = (w.alloc (.cells #[.int .i64 3, .int .i64 1, .int .i64 0, .int .i64 1, .int .i64 3, .int .i64 1, .int .i64 0, .int .i64 2, .int .i64 3, .int .i64 1, .int .i64 0, .int .i64 3] t)) := ⟨_, rfl⟩
    rw [← hw1]
    have k1 : Kept No w w1 := by rw [hw1]; exact (Kept.refl No w).alloc _
    have hsz : w1.heap.size = w.heap.size + 1 := by rw [hw1]; simp
    have hsv : Sv w1 (fun k => k = w.heap.size) (some ⟨w.heap.size, 0, none⟩) w3s.length 3 w3s := by
      refine ⟨rfl, by decide, by decide, (fun h => by cases h), fun i x hx => ?_⟩
      rw [hw1]
      match i, hx with
      | 0, hx => cases hx; exact ⟨⟨by constructor <;> decide, by constructor <;> decide, by constructor <;> decide, by constructor <;> decide⟩, w.heap.size, 0, rfl, rfl, by simp, by simp, by simp, by simp⟩
      | 1, hx => cases hx; exact ⟨⟨by constructor <;> decide, by constructor <;> decide, by constructor <;> decide, by constructor <;> decide⟩, w.heap.size, 0, rfl, rfl, by simp, by simp, by simp, by simp⟩
      | 2, hx => cases hx; exact ⟨⟨by constructor <;> decide, by constructor <;> decide, by constructor <;> decide, by constructor <;> decide⟩, w.heap.size, 0, rfl, rfl, by simp, by simp, by simp, by simp⟩
    have hle : ∀ i, i < w3s.length + 1 → 0 ≤ usF w3s (hyp w3s) (2 * hyp w3s) i ∧ usF w3s (hyp w3s) (2 * hyp w3s) i ≤ (hyp w3s : Int) := fun i hi => by
      rw [w3_hyp]
      rw [show usF w3s 3 (2 * 3) i = usF w3s 3 6 i from rfl, w3_us i hi]
      split <;> decide
    have hL : lfS (usF w3s (hyp w3s) (2 * hyp w3s)) (hyp w3s) (w3s.length + 1) = ((1 : Nat) : Int) := by
      rw [w3_hyp]; exact w3_lf
    have := shares_yes w1 (hg.kept k1) hsv (fun k hk => by rw [hk, hsz]; omega) w3_tim hle 1 hL (by decide)
    refine this.mono ?_
    rintro e w' ⟨g, D, rfl, _, h2, h3, h4, h5⟩
    refine ⟨g, rfl, ?_, k1.trans h5 (fun _ h => h.elim)⟩
    rw [w3_hyp] at h2 h4
    have hD := w3_first h3 h4
    refine h2.congr' (fun j hj => ?_)
    rw [show loS (usF w3s 3 (2 * 3)) ((3 : Nat) : Int) j = loS (usF w3s 3 6) 3 j from rfl, w3_lo j hj, incN, incN, hD]
    by_cases h0 : j = 0
    · rw [if_pos h0, if_pos h0, if_neg (by omega)]; rfl
    · rw [if_neg h0, if_neg h0]
      by_cases h1 : j = 1
      · rw [if_pos h1, if_pos h1]; rfl
      · rw [if_neg h1, if_neg h1]; rfl
  clear hg
  go_enter Tryz.func5, Tryz.ntmps5
  go_wp2_with fail
  refine (HS.out _).mono ?_
  rintro e w2 ⟨g, rfl, hcw, k2⟩
  have H2 := hid (And.intro hcw k2)
  clear hcw k2
  have H3 : Hid (∀ t, Calls Tryz.prog 13 #[.slice (some ⟨g, 0, none⟩) 4 4, .slice (some ⟨w2.heap.size, 0, none⟩) 4 4] (w2.alloc (.cells #[.int .i64 0, .int .i64 333334, .int .i64 333333, .int .i64 333333] t)) fun e w' => e = .returned (.bool true) ∧ Kept No w w') := fun t => by
    have k3 : Kept No w2 (w2.alloc (.cells #[.int .i64 0, .int .i64 333334, .int .i64 333333, .int .i64 333333] t)) := (Kept.refl No w2).alloc _
    have hb := World.alloc_heap_new w2 (.cells #[.int .i64 0, .int .i64 333334, .int .i64 333333, .int .i64 333333] t)
    refine (same_yes (f' := fun i => if i = 0 then 0 else if i = 1 then 333334 else 333333) _ (H2.out.1.keep k3) ⟨fun i hi => ?_, fun i => ?_, by simp⟩ (fun i hi => rfl) (by omega)).mono ?_
    · match i, hi with
      | 0, _ => simp
      | 1, _ => simp
      | 2, _ => simp
      | 3, _ => simp
    · simp only [World.frozen?]
      rw [hb]
      rfl
    · rintro e w' ⟨rfl, k4⟩
      exact ⟨rfl, (H2.out.2.trans k3 (fun _ h => h.elim)).trans k4 (fun _ h => h.elim)⟩
  go_wp2_with (go_at_call 13; refine (H3.out _).mono ?_; rintro e w4 ⟨rfl, k4⟩; have H4 := hid k4; clear k4)
  go_ret
  exact ⟨rfl, H4.out⟩
end Go.Proofs.YthdmbikmjimmkaaGreatDoor
