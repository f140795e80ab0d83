/-
  proc: Stop.
-/
import Derived.Test.YtofkacfchkimiaaPMore
import Derived.Test.YtofkacfchkimiaaPDorm
namespace Go.Proofs.Ytofkacfchkimiaa
open Go.RowKit Plain
set_option linter.unusedVariables false
set_option maxRecDepth 100000

/-- dormant again; its plan stays -/
def Pr.ends (p : Pr) : Pr := dorm p.mis p.en p.pp p.per p.lim
theorem ends_plan (p : Pr) : ∀ x, x < 32 → 28 ≤ x → p.ends.cell x = p.cell x := cell_cases (by simp [Pr.cell, Pr.ends, dorm])
theorem Kept.setCells {F : Nat → Prop} {g : Nat} (hg : F g) {a : World} : ∀ (vs : List Value) (o : Nat) (w : World), Kept F a w → Kept F a (w.setCells g o vs)
  | [], _, _, h => h
  | v :: r, o, w, h => Kept.setCells hg r (o + 1) _ (h.setCell (.inl hg) v)
theorem val_at' (p : Pr) : ∀ k, k < 28 → (p.val p.da).toList[k]? = some (p.cell k) := by
  intro k hk
  have h32 : ∀ x, x < 32 → x < 28 → (p.val p.da).toList[x]? = some (p.cell x) := cell_cases (by simp [Pr.val, Pr.cell])
  exact h32 k (by omega) hk
section
variable {b g cap : Nat} {T : Tt}
theorem Tw.ends {w : World} (h : Tw w b g cap T) {i : Nat} (hi : i < T.n) (m : Int) (hm : (T.ps i).mis = m) : Tw (w.setCells g (i * 32) ((dorm m 0 0 0 0).val (.slice none 0 0)).toList) b g cap (T.at i Pr.ends) := by
  have hlen : ((dorm m 0 0 0 0).val (.slice none 0 0)).toList.length = 28 := rfl
  have k : Kept (fun x => x = b ∨ x = g) w (w.setCells g (i * 32) ((dorm m 0 0 0 0).val (.slice none 0 0)).toList) := Kept.setCells (.inr rfl) _ _ _ (Kept.refl _ w)
  have ob : ∀ o, (w.setCells g (i * 32) ((dorm m 0 0 0 0).val (.slice none 0 0)).toList).cell? ⟨b, o, none⟩ = w.cell? ⟨b, o, none⟩ := fun o => World.cell?_setCells_out g _ _ w ⟨b, o, none⟩ (fun e => (h.ne e).elim)
  refine ⟨(ob 0).trans h.box, (ob 1).trans h.cd, (ob 2).trans h.hd, (ob 3).trans h.lk, (ob 4).trans h.pl, h.ne, h.one, h.hcap, h.hmax, fun j => ?_, fun j => ?_, fun x hx j hj => ?_, fun x hx => ?_⟩
  · rw [World.frozen?_setCells]; exact h.fb j
  · rw [World.frozen?_setCells]; exact h.fg j
  · by_cases hxi : x = i
    · subst hxi
      rw [Tt.at_same]
      by_cases hj2 : j < 28
      · have hr := World.rangeAt_setCells_same w g (x * 32) ((dorm m 0 0 0 0).val (.slice none 0 0)).toList (fun k hk => ⟨by rw [h.at' x hx k (by rw [hlen] at hk; omega)]; rfl, h.fg _⟩)
        have h32 : ∀ k, k < 32 → k < 28 → ((dorm m 0 0 0 0).val (.slice none 0 0)).toList[k]? = some ((T.ps x).ends.cell k) := by
          intro k hk hk2
          have : ((dorm m 0 0 0 0).val (.slice none 0 0)).toList[k]? = some ((dorm m 0 0 0 0).cell k) := val_at' (dorm m 0 0 0 0) k hk2
          rw [this]
          have e : ∀ y, y < 32 → y < 28 → (dorm m 0 0 0 0).cell y = (T.ps x).ends.cell y := by
            unfold Pr.ends
            rw [hm]
            exact cell_cases (by simp [Pr.cell, dorm])
          rw [e k hk hk2]
        exact hr j _ (h32 j hj hj2)
      · rw [ends_plan _ j hj (by omega)]
        rw [World.cell?_setCells_out g _ _ w ⟨g, x * 32 + j, none⟩ (fun _ _ => .inr (by rw [hlen]; show x * 32 + 28 ≤ x * 32 + j; omega))]
        exact h.at' x hx j hj
    · rw [Tt.at_other _ _ hxi]
      rw [World.cell?_setCells_out g _ _ w ⟨g, x * 32 + j, none⟩ (fun _ _ => by rw [hlen]; show x * 32 + j < i * 32 ∨ i * 32 + 28 ≤ x * 32 + j; omega)]
      exact h.at' x hx j hj
  · by_cases hxi : x = i
    · subst hxi
      rw [Tt.at_same]
      exact ⟨none, 0, 0, rfl, Zs.none _ _⟩
    · rw [Tt.at_other _ _ hxi]
      exact (h.da x hx).kept k
/-- it is stopped -/
def Tt.stop (T : Tt) (i : Nat) : Tt := if T.lk = (i : Int) + 1 then (T.at i Pr.ends).sLk 0 else T.at i Pr.ends
set_option maxHeartbeats 2000000 in
theorem stop_yes (w : World) (h : Tw w b g cap T) {i : Nat} (hi : i < T.n) (hn : T.n ≤ 1048576) (hs : (T.ps i).st ≠ 0) :
    Calls Try.prog 54 #[.pointer (some ⟨b, 0, none⟩), .int .i64 ((i : Int) + 1)] w fun e w' => e = .returned (.bool true) ∧ Tw w' b g cap (T.stop i) ∧ Kept (Bg b g) w w' := by
  have fi := find_yes w h hi hn
  have c0 : w.cell? ⟨g, i * 32, none⟩ = some (.int .i64 (T.ps i).st) := h.at' i hi 0 (by omega)
  have c27 : w.cell? ⟨g, i * 32 + 27, none⟩ = some (.int .i64 (T.ps i).mis) := h.at' i hi 27 (by omega)
  have hs' : ((T.ps i).st == 0) = false := by simp [hs]
  have H : Hid (Tw w b g cap T) := h
  obtain ⟨m, hm⟩ : ∃ m, (T.ps i).mis = m := ⟨_, rfl⟩
  have HM : Hid ((T.ps i).mis = m) := hm
  rw [hm] at c27
  have dm := dormant_any m w
  have HE : Hid (T.stop i = if T.lk = (i : Int) + 1 then (T.at i Pr.ends).sLk 0 else T.at i Pr.ends) := rfl
  clear h hs hm
  generalize (T.ps i).st = st at c0 hs'
  generalize T.stop i = Z at *
  go_enter Try.func54, Try.ntmps54
  go_upto_region 4 with (go_at_call 34; refine fi.mono ?_; rintro e w1 ⟨rfl, e1⟩; subst e1; clear fi)
  refine wp_region_lit ?_
  go_step
  go_step
  go_step
  go_step
  go_step
  go_step
  go_step
  go_step
  go_step
  go_step
  go_step
  go_step
  go_step
  go_step
  go_step
  go_step
  go_step
  go_step
  go_step
  go_step
  refine dm.mono ?_
  rintro e w2 ⟨rfl, k2⟩
  dsimp only
  go_step
  go_step
  go_step
  go_step
  go_step
  go_step
  go_step
  have t2 := H.out.keep k2
  refine wpList_store_mid rfl 48 (.tmp 27) (.tmp 25) rfl g (i * 32) ((dorm m 0 0 0 0).val (.slice none 0 0)) rfl rfl (fun k hk => ⟨by rw [t2.at' i hi k (by have : k < 28 := hk; omega)]; rfl, t2.fg _⟩) Try.info48 (val_one _) ?_
  simp only [Act.put]
  have t3 := t2.ends hi m HM.out
  have k3 : Kept (Bg b g) w1 (w2.setCells g (i * 32) ((dorm m 0 0 0 0).val (.slice none 0 0)).toList) := Kept.setCells (.inr rfl) _ _ _ (k2.mono (fun _ e => e.elim))
  have ck := t3.lk
  have fk := t3.fb 3
  have H3 : Hid (Tw (w2.setCells g (i * 32) ((dorm m 0 0 0 0).val (.slice none 0 0)).toList) b g cap (T.at i Pr.ends) ∧ Kept (Bg b g) w1 (w2.setCells g (i * 32) ((dorm m 0 0 0 0).val (.slice none 0 0)).toList)) := ⟨t3, k3⟩
  clear t2 t3 k2 k3 c0 c27 dm
  generalize (w2.setCells g (i * 32) ((dorm m 0 0 0 0).val (.slice none 0 0)).toList) = w3 at *
  have ck' : w3.cell? ⟨b, 3, none⟩ = some (.int .i64 T.lk) := ck
  clear ck
  by_cases hk : T.lk = (i : Int) + 1
  · have E : Hid (Z = (T.at i Pr.ends).sLk 0) := HE.out.trans (if_pos hk)
    rw [hk] at ck'
    clear hk HE
    go_wp2
    go_ret
    exact ⟨rfl, by rw [E.out]; exact H3.out.1.setLk 0, H3.out.2.setCell (.inl (.inl rfl)) _⟩
  · have E : Hid (Z = T.at i Pr.ends) := HE.out.trans (if_neg hk)
    have hk' : (T.lk == (i : Int) + 1) = false := by simp [hk]
    clear hk HE
    generalize T.lk = lk at ck' hk'
    go_wp2
    go_ret
    exact ⟨rfl, by rw [E.out]; exact H3.out.1, H3.out.2⟩
end
end Go.Proofs.Ytofkacfchkimiaa
