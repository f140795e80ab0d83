/-
  One text: KPl, QSpn, QRfs.
-/
import Derived.Test.YtibmgpinfdcaoaaGreatDoorG34
namespace Go.Proofs.YtibmgpinfdcaoaaGreatDoor
open Go.RowKit Plain
set_option linter.unusedVariables false
set_option maxRecDepth 100000

def bstK (K : Nat → Int) (G : Nat → Bool) : Nat → Option Nat
  | 0 => none
  | i + 1 => match bstK K G i with
    | none => if G i = true then none else some i
    | some b => if G i = false ∧ K b < K i then some i else some b
theorem bst_spec (K : Nat → Int) (G : Nat → Bool) : ∀ i, (bstK K G i = none ∧ ∀ j, j < i → G j = true) ∨ ∃ b, bstK K G i = some b ∧ b < i ∧ G b = false ∧ ∀ j, j < i → G j = false → j = b ∨ ltK K b j
  | 0 => .inl ⟨rfl, fun j hj => by omega⟩
  | i + 1 => by
    rcases bst_spec K G i with ⟨h1, h2⟩ | ⟨b, h1, h2, h3, h4⟩
    · cases hg : G i with
      | true =>
        refine .inl ⟨by rw [bstK, h1]; simp [hg], fun j hj => ?_⟩
        by_cases e : j = i
        · rw [e]; exact hg
        · exact h2 j (by omega)
      | false =>
        refine .inr ⟨i, by rw [bstK, h1]; simp [hg], by omega, hg, fun j hj hf => ?_⟩
        by_cases e : j = i
        · exact .inl e
        · have := h2 j (by omega); rw [hf] at this; cases this
    · by_cases hc : G i = false ∧ K b < K i
      · refine .inr ⟨i, by rw [bstK, h1]; simp [hc], by omega, hc.1, fun j hj hf => ?_⟩
        by_cases e : j = i
        · exact .inl e
        · right
          rcases h4 j (by omega) hf with e2 | e2
          · rw [e2]; exact .inl hc.2
          · unfold ltK at e2 ⊢; have := hc.2; omega
      · refine .inr ⟨b, by rw [bstK, h1]; exact if_neg hc, by omega, h3, fun j hj hf => ?_⟩
        by_cases e : j = i
        · right
          have hk : ¬ K b < K i := fun hk => hc ⟨by rw [← e]; exact hf, hk⟩
          rw [e]; unfold ltK; omega
        · exact h4 j (by omega) hf
def gvn (K : Nat → Int) (n : Nat) : Nat → Nat → Bool
  | 0, _ => false
  | r + 1, i => gvn K n r i || decide (bstK K (gvn K n r) n = some i)
theorem sm_mono {f g : Nat → Int} : ∀ n, (∀ i, i < n → f i ≤ g i) → sm f n ≤ sm g n
  | 0, _ => Int.le_refl _
  | n + 1, h => by
    have h1 := sm_mono n (fun i hi => h i (by omega))
    have h2 := h n (by omega)
    simp only [sm]
    omega
theorem sm_one {f : Nat → Int} : ∀ n, (∀ i, i < n → 1 ≤ f i) → (n : Int) ≤ sm f n
  | 0, _ => Int.le_refl _
  | n + 1, h => by
    have h1 := sm_one n (fun i hi => h i (by omega))
    have h2 := h n (by omega)
    simp only [sm]
    omega
theorem gvn_few (K : Nat → Int) (n : Nat) : ∀ r, sm (fun i => if gvn K n r i = true then 1 else 0) n ≤ r
  | 0 => by
    have := sm_mono (f := fun i => if gvn K n 0 i = true then 1 else 0) (g := fun _ => 0 * 0) n (fun i hi => by simp [gvn])
    have e := sm_mul (fun _ => 0) 0 n
    omega
  | r + 1 => by
    have ih := gvn_few K n r
    cases hb : bstK K (gvn K n r) n with
    | none =>
      have := sm_mono (f := fun i => if gvn K n (r + 1) i = true then 1 else 0) (g := fun i => if gvn K n r i = true then 1 else 0) n (fun i hi => by simp [gvn, hb])
      omega
    | some b =>
      have h1 := sm_mono (f := fun i => if gvn K n (r + 1) i = true then 1 else 0) (g := fun i => (if gvn K n r i = true then 1 else 0) + (if i = b then 1 else 0)) n (fun i hi => by
        by_cases e : i = b
        · subst e; simp [gvn, hb]; split <;> omega
        · have e' : ¬ b = i := fun h => e h.symm
          simp [gvn, hb, e, e'])
      rw [sm_add, sm_ind] at h1
      split at h1 <;> omega
theorem gvn_bst {K : Nat → Int} {n r : Nat} (hr : r < n) : ∃ b, bstK K (gvn K n r) n = some b ∧ b < n ∧ gvn K n r b = false ∧ ∀ j, j < n → gvn K n r j = false → j = b ∨ ltK K b j := by
  rcases bst_spec K (gvn K n r) n with ⟨_, h2⟩ | h
  · have h1 := gvn_few K n r
    have h3 := sm_one (f := fun i => if gvn K n r i = true then 1 else 0) n (fun i hi => by simp [h2 i hi])
    omega
  · exact h
theorem pm_sur {n : Nat} {D : Nat → Nat} (hp : Pm 0 n (fun i => i) D) {b : Nat} (hb : b < n) : ∃ t, t < n ∧ b = D t := by
  apply Classical.byContradiction
  intro hc
  have h := hp.sum (fun i => if i = b then 1 else 0) n (Nat.le_refl _)
  rw [sm_ind, if_pos hb] at h
  have h2 := sm_mono (f := fun t => if D t = b then 1 else 0) (g := fun _ => 0 * 0) n (fun i hi => by
    rw [if_neg (fun e => hc ⟨i, hi, e.symm⟩)]; omega)
  have e := sm_mul (fun _ => 0) 0 n
  omega
theorem sel_eq {K : Nat → Int} {n : Nat} {D : Nat → Nat} (hp : Pm 0 n (fun i => i) D) (ho : So K 0 n D) : ∀ r, r ≤ n → ∀ i, i < n → (gvn K n r i = true ↔ ∃ s, s < r ∧ i = D s)
  | 0, _, i, _ => by simp [gvn]
  | r + 1, hr, i, hi => by
    have ih := fun i hi => sel_eq hp ho r (by omega) i hi
    have hinj := hp.inj (fun _ _ _ _ _ _ e => e)
    obtain ⟨b, h1, h2, h3, h4⟩ := gvn_bst (K := K) (show r < n by omega)
    have hbr : b = D r := by
      obtain ⟨t, ht, rfl⟩ := pm_sur hp h2
      have htr : ¬ t < r := fun h => by
        have := (ih _ h2).2 ⟨t, h, rfl⟩
        rw [h3] at this; cases this
      by_cases e : t = r
      · rw [e]
      · have hlt := ho r t (Nat.zero_le _) (by omega) ht
        obtain ⟨q, _, q2, q3⟩ := hp.mem r (Nat.zero_le _) (by omega)
        have hg : gvn K n r (D r) = false := by
          cases hg : gvn K n r (D r) with
          | false => rfl
          | true =>
            obtain ⟨s, hs, es⟩ := (ih _ (by rw [q3]; exact q2)).1 hg
            have := hinj r s (Nat.zero_le _) (by omega) (Nat.zero_le _) (by omega) es
            omega
        rcases h4 (D r) (by rw [q3]; exact q2) hg with e2 | e2
        · exact absurd (e2 ▸ hlt) (fun h => by rw [e2] at hlt; exact hlt.irr)
        · exact absurd (hlt.trans e2) (fun h => h.irr)
    rw [gvn, h1, Bool.or_eq_true, ih i hi]
    constructor
    · rintro (⟨s, hs, e⟩ | e)
      · exact ⟨s, by omega, e⟩
      · simp at e; exact ⟨r, by omega, by rw [← e]; exact hbr⟩
    · rintro ⟨s, hs, e⟩
      by_cases es : s = r
      · right; subst es; simp [hbr, e]
      · left; exact ⟨s, by omega, e⟩
theorem inc_sel {K : Nat → Int} {n : Nat} {D : Nat → Nat} (hp : Pm 0 n (fun i => i) D) (ho : So K 0 n D) {L i : Nat} (hL : L ≤ n) (hi : i < n) : incN D L i = if gvn K n L i = true then 1 else 0 := by
  rw [incM_eq]
  have h := sel_eq hp ho L hL i hi
  rcases inc_one hp L i hL with ⟨e, h2⟩ | ⟨e, h2⟩
  · rw [e, if_neg (fun hg => by obtain ⟨s, h3, h4⟩ := h.1 hg; exact h2 s h3 h4)]
  · rw [e, if_pos (h.2 h2)]

/-! ### what is told -/
def uE (xs : List Srv) (fr be : Int) : Int := match timF xs xs.length with
  | some p => p.1
  | none => if spO fr be = true then 0 else 2
def uN (xs : List Srv) (fr be : Int) : Nat := if uE xs fr be = 0 then xs.length + 1 else 0
def uF (xs : List Srv) (fr be : Int) : Nat → Int := usF xs fr.toNat be.toNat
def sE (xs : List Srv) : Int := match timF xs xs.length with
  | some p => p.1
  | none => 0
def sN (xs : List Srv) : Nat := if sE xs = 0 then xs.length + 1 else 0
def cyU (xs : List Srv) : Nat → Int := usF xs (hyp xs) (2 * hyp xs)
def sL (xs : List Srv) : Nat := (lfS (cyU xs) (hyp xs) (xs.length + 1)).toNat
def sF (xs : List Srv) (i : Nat) : Int := loS (cyU xs) (hyp xs) i + if gvn (rmK (cyU xs) (hyp xs)) (xs.length + 1) (sL xs) i = true then 1 else 0
theorem uE_some {xs : List Srv} {fr be : Int} {p : Int × Int} (h : timF xs xs.length = some p) : uE xs fr be = p.1 ∧ uN xs fr be = 0 ∧ sE xs = p.1 ∧ sN xs = 0 := by
  have h0 := tim_neQ h
  have e1 : uE xs fr be = p.1 := by unfold uE; rw [h]
  have e2 : sE xs = p.1 := by unfold sE; rw [h]
  exact ⟨e1, by unfold uN; rw [e1, if_neg h0], e2, by unfold sN; rw [e2, if_neg h0]⟩
theorem uE_bad {xs : List Srv} {fr be : Int} (h : timF xs xs.length = none) (hs : spO fr be = false) : uE xs fr be = 2 ∧ uN xs fr be = 0 := by
  have e1 : uE xs fr be = 2 := by unfold uE; rw [h, hs]; rfl
  exact ⟨e1, by unfold uN; rw [e1]; rfl⟩
theorem uE_yes {xs : List Srv} {fr be : Int} (h : timF xs xs.length = none) (hs : spO fr be = true) : uE xs fr be = 0 ∧ uN xs fr be = xs.length + 1 := by
  have e1 : uE xs fr be = 0 := by unfold uE; rw [h, hs]; rfl
  exact ⟨e1, by unfold uN; rw [e1]; rfl⟩
theorem sE_yes {xs : List Srv} (h : timF xs xs.length = none) : sE xs = 0 ∧ sN xs = xs.length + 1 := by
  have e1 : sE xs = 0 := by unfold sE; rw [h]
  exact ⟨e1, by unfold sN; rw [e1]; rfl⟩
theorem uN_le (xs : List Srv) (fr be : Int) : uN xs fr be ≤ xs.length + 1 := by unfold uN; split <;> omega
theorem sN_le (xs : List Srv) : sN xs ≤ xs.length + 1 := by unfold sN; split <;> omega
theorem uN_32 (xs : List Srv) (fr be : Int) : uN xs fr be ≤ 33 := by
  cases h : timF xs xs.length with
  | some p => rw [(uE_some (fr := fr) (be := be) h).2.1]; omega
  | none => have := (vd_of h).num; have := uN_le xs fr be; omega
theorem sN_32 (xs : List Srv) : sN xs ≤ 33 := by
  cases h : timF xs xs.length with
  | some p => rw [(uE_some (fr := 0) (be := 0) h).2.2.2]; omega
  | none => have := (vd_of h).num; have := sN_le xs; omega
structure CyU (xs : List Srv) : Prop where
  bd : ∀ i, i < xs.length + 1 → 0 ≤ cyU xs i ∧ cyU xs i ≤ (hyp xs : Int)
  L : lfS (cyU xs) (hyp xs) (xs.length + 1) = (sL xs : Int)
  Ln : sL xs ≤ xs.length + 1
theorem cyU_of {xs : List Srv} (ht : timF xs xs.length = none) : CyU xs := by
  have hv := vd_of ht
  have hH1 := hv.hyp1
  have hcb : ∀ i, i < xs.length + 1 → 0 ≤ cyU xs i ∧ cyU xs i ≤ (hyp xs : Int) := fun i hi => by
    have := us_bd xs (show hyp xs ≤ 2 * hyp xs by omega) i hi
    unfold cyU
    omega
  have hcs : sm (cyU xs) (xs.length + 1) = (hyp xs : Int) := by unfold cyU; rw [us_all]; omega
  have hlb := left_bd (show (1 : Int) ≤ (hyp xs : Int) by omega) hcs
  have e := lfS_eq (cyU xs) (hyp xs) (xs.length + 1)
  rw [← e] at hlb
  refine ⟨hcb, (Int.toNat_of_nonneg hlb.1).symm, ?_⟩
  unfold sL
  omega
end Go.Proofs.YtibmgpinfdcaoaaGreatDoor

namespace Go.Proofs.YtibmgpinfdcaoaaGreatDoor
open Go.RowKit Plain
set_option linter.unusedVariables false
set_option maxRecDepth 100000

theorem isThere_any (a : Option Addr) (n c : Nat) (p : Int) (w : World) (hn : n ≤ 9223372036854775807) : Calls Tryz.prog 29 #[.slice a n c, .int .i64 p] w fun e w' => e = .returned (.bool (thO n p)) ∧ w' = w := by
  cases h : thO n p with
  | true =>
    obtain ⟨h1, h2⟩ := thO_yes h
    clear h
    go_enter Tryz.func29, Tryz.ntmps29
    go_wp2
    go_ret
    first
      | exact ⟨rfl, rfl⟩
      | exact ⟨by simp [Array.getD] <;> omega, rfl⟩
  | false =>
    rcases thO_no h with h1 | ⟨h1, h2⟩
    · clear h
      go_enter Tryz.func29, Tryz.ntmps29
      go_wp2
      go_ret
      first
        | exact ⟨rfl, rfl⟩
        | exact ⟨by simp [Array.getD] <;> omega, rfl⟩
    · clear h
      go_enter Tryz.func29, Tryz.ntmps29
      go_wp2
      go_ret
      first
        | exact ⟨rfl, rfl⟩
        | exact ⟨by simp [Array.getD] <;> omega, rfl⟩
theorem isSpan_any (fr be : Int) (w : World) : Calls Tryz.prog 30 #[.int .i64 fr, .int .i64 be] w fun e w' => e = .returned (.bool (spO fr be)) ∧ w' = w := by
  cases h : spO fr be with
  | true =>
    obtain ⟨h1, h2, h3⟩ := spO_yes h
    clear h
    go_enter Tryz.func30, Tryz.ntmps30
    go_wp2
    go_ret
    first
      | exact ⟨rfl, rfl⟩
      | exact ⟨by simp [Array.getD] <;> omega, rfl⟩
  | false =>
    rcases spO_no h with h1 | ⟨h1, h2⟩ | ⟨h1, h2, h3⟩
    · clear h
      go_enter Tryz.func30, Tryz.ntmps30
      go_wp2
      go_ret
      first
        | exact ⟨rfl, rfl⟩
        | exact ⟨by simp [Array.getD] <;> omega, rfl⟩
    · clear h
      go_enter Tryz.func30, Tryz.ntmps30
      go_wp2
      go_ret
      first
        | exact ⟨rfl, rfl⟩
        | exact ⟨by simp [Array.getD] <;> omega, rfl⟩
    · clear h
      go_enter Tryz.func30, Tryz.ntmps30
      go_wp2
      go_ret
      first
        | exact ⟨rfl, rfl⟩
        | exact ⟨by simp [Array.getD] <;> omega, rfl⟩

set_option maxHeartbeats 2000000 in
theorem supply_all {F : Nat → Prop} {a : Option Addr} {c : Nat} {xs : List Srv} (p fr be : Int) (w : World) (hg : Gl w) (h : Sv w F a xs.length c xs) (hF : ∀ k, F k → k < w.heap.size) :
    Calls Tryz.prog 19 #[.slice a xs.length c, .int .i64 p, .int .i64 fr, .int .i64 be] w fun e w' => e = .returned (.tuple #[.int .i64 (suV xs p fr be), .int .i64 (suE xs p fr be)]) ∧ Kept No w w' := by
  have hc := hyper_any F a xs.length c xs w hg h
  have hnm : xs.length ≤ 9223372036854775807 := Nat.le_trans h.cap h.max
  cases ht : timF xs xs.length with
  | some q =>
    obtain ⟨e1, e2⟩ := su_none (p := p) (fr := fr) (be := be) ht
    rw [e1, e2]
    rw [(tim_no ht).1, (tim_no ht).2] at hc
    have hp1 : (q.1 != 0) = true := bne_iff_ne.2 (tim_neQ ht)
    clear h hF ht e1 e2 hg
    generalize q.1 = E at *
    go_enter Tryz.func19, Tryz.ntmps19
    go_wp2_with (go_at_call 24; refine hc.mono ?_; rintro e w1 ⟨rfl, hk1⟩; have HK1 : Hid (Kept No w w1) := hk1; clear hk1 hc)
    go_ret2
    exact ⟨rfl, HK1.out⟩
  | none =>
    cases hp : thO xs.length p with
    | false =>
      obtain ⟨e1, e2⟩ := su_not (fr := fr) (be := be) ht hp
      rw [e1, e2]
      rw [(tim_yes ht).1, (tim_yes ht).2] at hc
      have hth := fun W => isThere_any a xs.length c p W hnm
      rw [hp] at hth
      clear h hF ht e1 e2 hg hp
      generalize ((hyp xs : Nat) : Int) = Y at *
      go_enter Tryz.func19, Tryz.ntmps19
      go_wp2_with (first
        | (go_at_call 24; refine hc.mono ?_; rintro e w1 ⟨rfl, hk1⟩; have HK1 : Hid (Kept No w w1) := hk1; clear hk1 hc)
        | (go_at_call 29; refine (hth _).mono ?_; rintro e w2 ⟨rfl, hw2⟩; obtain rfl := hw2.symm))
      go_ret2
      exact ⟨rfl, HK1.out⟩
    | true =>
      cases hs : spO fr be with
      | true =>
        obtain ⟨h1, h2, h3⟩ := spO_yes hs
        obtain ⟨p1, p2⟩ := thO_yes hp
        obtain ⟨e1, e2⟩ := su_good ht hp hs
        rw [e1, e2]
        have := supply_yes p.toNat fr.toNat be.toNat w hg h hF ht (by omega) (by omega) (by omega) (by omega)
        rw [show ((fr.toNat : Nat) : Int) = fr by omega, show ((be.toNat : Nat) : Int) = be by omega, show ((p.toNat : Nat) : Int) = p by omega] at this
        exact this
      | false =>
        obtain ⟨e1, e2⟩ := su_bad ht hp hs
        rw [e1, e2]
        rw [(tim_yes ht).1, (tim_yes ht).2] at hc
        have hth := fun W => isThere_any a xs.length c p W hnm
        rw [hp] at hth
        have hsp := fun W => isSpan_any fr be W
        rw [hs] at hsp
        clear h hF ht e1 e2 hg hp hs
        generalize ((hyp xs : Nat) : Int) = Y at *
        go_enter Tryz.func19, Tryz.ntmps19
        go_wp2_with (first
          | (go_at_call 24; refine hc.mono ?_; rintro e w1 ⟨rfl, hk1⟩; have HK1 : Hid (Kept No w w1) := hk1; clear hk1 hc)
          | (go_at_call 29; refine (hth _).mono ?_; rintro e w2 ⟨rfl, hw2⟩; obtain rfl := hw2.symm)
          | (go_at_call 30; refine (hsp _).mono ?_; rintro e w2 ⟨rfl, hw2⟩; obtain rfl := hw2.symm))
        go_ret2
        exact ⟨rfl, HK1.out⟩

end Go.Proofs.YtibmgpinfdcaoaaGreatDoor

namespace Go.Proofs.YtibmgpinfdcaoaaGreatDoor
open Go.RowKit Plain
set_option linter.unusedVariables false
set_option maxRecDepth 100000

/-- what single answers -/
def SgP (f : Nat → Nat) (H : Nat) (e : Ending) : Prop := ∃ b, e = .returned (.bool b) ∧ (b = true → ∀ t, H ≤ t → t < 2 * H → f t = f H)

set_option maxHeartbeats 2000000 in
theorem between_any {G : Nat → Prop} {a : Option Addr} {c H : Nat} {f : Nat → Nat} (p fr be : Nat) (w : World) (h : Ol w G a (2 * H) c f) (h1 : 1 ≤ H) (h2 : H ≤ 1048576) (hf : ∀ t, H ≤ t → f (t + H) = f t) (hfb : fr ≤ be) (hb : be ≤ 1099511627776) :
    Calls Tryz.prog 23 #[.slice a (2 * H : Nat) c, .int .i64 H, .int .i64 p, .int .i64 fr, .int .i64 be] w fun e w' => e = .returned (.int .i64 ((Rule.cnt f p be : Nat) - (Rule.cnt f p fr : Nat))) ∧ Kept No w w' := by
  have HU : Hid (∀ (t : Nat) W, t ≤ 1099511627776 → Kept No w W → Calls Tryz.prog 35 #[.slice a (2 * H : Nat) c, .int .i64 H, .int .i64 p, .int .i64 t] W fun e w' => e = .returned (.int .i64 (Rule.cnt f p t : Nat)) ∧ ∃ n, w' = W.drewN n) := fun t W ht k => upTo_any p t W (h.kept k (fun _ _ h => h)) h1 h2 hf ht
  have l1 := Rule.cnt_le f p be
  have l2 := Rule.cnt_le f p fr
  have u1 := HU.out be w hb (Kept.refl _ _)
  have HU2 : Hid (∀ n, Calls Tryz.prog 35 #[.slice a (2 * H : Nat) c, .int .i64 H, .int .i64 p, .int .i64 fr] (w.drewN n) fun e w' => e = .returned (.int .i64 (Rule.cnt f p fr : Nat)) ∧ ∃ n, w' = w.drewN n) := fun n => (HU.out fr (w.drewN n) (by omega) ((Kept.refl No w).drewN n)).mono (fun e w' ⟨e1, m, e2⟩ => ⟨e1, by rw [e2]; exact ⟨_, World.drewN_drewN _ _ _⟩⟩)
  clear h HU
  generalize hA : ((Rule.cnt f p be : Nat) : Int) = X at *
  generalize hB : ((Rule.cnt f p fr : Nat) : Int) = Y at *
  have z1 : 0 ≤ X ∧ X ≤ 1099511627776 := by omega
  have z2 : 0 ≤ Y ∧ Y ≤ 1099511627776 := by omega
  clear hA hB l1 l2
  obtain ⟨z11, z12⟩ := z1
  obtain ⟨z21, z22⟩ := z2
  generalize (2 * H : Nat) = M at *
  go_enter Tryz.func23, Tryz.ntmps23
  go_wp2_with (first
    | (go_at_call 35; refine u1.mono ?_; rintro e w1 ⟨rfl, n1, hw⟩; subst hw; clear u1; have u2 := HU2.out n1)
    | (go_at_call 35; refine u2.mono ?_; rintro e w2 ⟨rfl, n2, hw⟩; subst hw; clear u2))
  go_ret
  exact ⟨rfl, (Kept.refl No w).drewN _⟩

end Go.Proofs.YtibmgpinfdcaoaaGreatDoor
