/-
  One text: RGrw, VSc, VSp, VSv.
-/
import Derived.Test.YtnmhcnppdhdhfaaGreatDoorG40
import Derived.Test.YtnmhcnppdhdhfaaGreatDoorG13
import Derived.Test.YtnmhcnppdhdhfaaGreatDoorG36
import Derived.Test.YtnmhcnppdhdhfaaGreatDoorG04
namespace Go.Proofs.YtnmhcnppdhdhfaaGreatDoor
open Go.RowKit Plain
set_option linter.unusedVariables false
set_option maxRecDepth 100000

theorem lv_mono {o : Nat → Bool} {T C T' C' : Nat → Nat} : ∀ j, (∀ i, i < j → T i = T' i ∧ C i ≤ C' i) → ∀ t, lv o T' C' j t = true → lv o T C j t = true
  | 0, _, t, h => h
  | j + 1, h, t, ht => by
    have e := (h j (by omega)).1
    have h2 : Rp.nxt (lv o T' C' j) (fun _ => C' j) (T' j) t = true := ht
    rw [← e] at h2
    exact Rp.nxt_mono (lv_mono j (fun i hi => h i (by omega))) (fun _ => (h j (by omega)).2) t h2
theorem grows_core {o : Nat → Bool} {m m' n g g' s s' : Nat} {xs ys : List Prc} {w w2 u u2 : World} {d d' : Array Wr} {f f' : Nat → Wr} (hx : xs.length = n) (hy : ys.length = n) (hpe : ∀ a, (ys.getD a dPrc).pe = (xs.getD a dPrc).pe) (hca : ∀ a, (xs.getD a dPrc).ca.toNat ≤ (ys.getD a dPrc).ca.toNat) (hpr : ∀ i, prs ys i = prs xs i) (hj : hjB xs xs.length = true) (hpos : ∀ j, j < n → 1 ≤ (xs.getD j dPrc).pe)
    (h : Pyd o (2 * m) n xs w w2 g s d f) (h' : Pyd o (2 * m') n ys u u2 g' s' d' f') (hm : 1 ≤ m) (hm' : 1 ≤ m') (ho : Rp.again o m) (ho' : Rp.again o m') (hT : ∀ j, j < n → (xs.getD j dPrc).pe.toNat ∣ m) (hT' : ∀ j, j < n → (ys.getD j dPrc).pe.toNat ∣ m')
    {i : Nat} (hi : i < n) (hne : wsF d' f' s' i ≠ -1) : wsF d f s i ≠ -1 ∧ wsF d f s i ≤ wsF d' f' s' i := by
  have hinj := jobs_inj hj
  have hpl := places_eq (by omega) hpr hinj h.pm h.sr h'.pm h'.sr
  have hps := places_sorted h.pm h.sr hinj
  have hsz := h.sz
  have hsz' := h'.sz
  have epl : ∀ k, k < n → (d'[k]!).pl = (d[k]!).pl := fun k hk => by
    have a1 := pl_get (xs := xs) (d := d) (k := k) (by omega)
    have a2 := pl_get (xs := xs) (d := d') (k := k) (by omega)
    rw [hpl, a2] at a1
    injection a1
  have lo : ∀ a b, a < b → b < n → prs xs (d[b]!).pl < prs xs (d[a]!).pl := fun a b hab hb => by
    have h1 := List.pairwise_iff_getElem.1 hps a b (by simp; omega) (by simp; omega) hab
    have e1 := pl_get (xs := xs) (d := d) (k := a) (by omega)
    have e2 := pl_get (xs := xs) (d := d) (k := b) (by omega)
    rw [List.getElem?_eq_getElem (by simp; omega)] at e1 e2
    injection e1 with e1
    injection e2 with e2
    rw [e1, e2] at h1
    exact h1
  obtain ⟨k, hk, hki⟩ : ∃ k, k < n ∧ (d[k]!).pl = i := by
    have hm : i ∈ d.toList.map (·.pl) := (places_perm h.pm).mem_iff.2 (List.mem_range.2 (by omega))
    obtain ⟨k, hk, e⟩ := List.getElem_of_mem hm
    have hk2 : k < n := by simp at hk; omega
    refine ⟨k, hk2, ?_⟩
    have := pl_get (xs := xs) (d := d) (k := k) (by omega)
    rw [List.getElem?_eq_getElem hk, e] at this
    injection this with this
    exact this.symm
  have pl_lt : ∀ j, j < n → (d[j]!).pl < n := fun j hj2 => by
    have := pyd_pl h (j := j) hj2; rw [pyd_at h] at this; omega
  have hTC : ∀ j, j < n → Td d j = Td d' j ∧ Cd d j ≤ Cd d' j ∧ Td d j = (xs.getD (d[j]!).pl dPrc).pe.toNat := fun j hj2 => by
    obtain ⟨a1, a2⟩ := td_at h.pm (k := j) (by omega)
    obtain ⟨b1, b2⟩ := td_at h'.pm (k := j) (by omega)
    rw [a1, a2, b1, b2, epl j hj2, hpe]
    exact ⟨rfl, hca _, rfl⟩
  have hdm : ∀ j, j < n → m % Td d j = 0 ∧ m' % Td d j = 0 ∧ 0 < Td d j := fun j hj2 => by
    have e := (hTC j hj2).2.2
    have hl := pl_lt j hj2
    refine ⟨by rw [e]; exact Nat.mod_eq_zero_of_dvd (hT _ hl), ?_, ?_⟩
    · rw [e, ← hpe]; exact Nat.mod_eq_zero_of_dvd (hT' _ hl)
    · rw [e]; have := hpos _ hl; omega
  -- the document's answer of the second at the first one's end
  have tell : ∀ j, j < n → (Rp.okE (lv o (Td d') (Cd d') j) (fun _ => Cd d' j) (Td d' j) (2 * m') ↔ Rp.okE (lv o (Td d') (Cd d') j) (fun _ => Cd d' j) (Td d j) (2 * m)) ∧ Rp.wrst (lv o (Td d') (Cd d') j) (fun _ => Cd d' j) (Td d' j) (2 * m') = Rp.wrst (lv o (Td d') (Cd d') j) (fun _ => Cd d' j) (Td d j) (2 * m) := fun j hj2 => by
    rw [← (hTC j hj2).1]
    refine told_same (lv_again ho' hm' j (fun i hi => ?_)) (lv_again ho hm j (fun i hi => ?_)) hm' hm (hdm j hj2).2.1 (hdm j hj2).1
    · rw [← (hTC i (by omega)).1]; exact (hdm i (by omega)).2.1
    · rw [← (hTC i (by omega)).1]; exact (hdm i (by omega)).1
  have hA : ∀ j, j ≤ n → ∀ t, lv o (Td d') (Cd d') j t = true → lv o (Td d) (Cd d) j t = true := fun j hj2 => lv_mono j (fun i hi => ⟨(hTC i (by omega)).1, (hTC i (by omega)).2.1⟩)
  have inj1 : ∀ a b, a < n → b < n → (f a).pl = (f b).pl → a = b := fun a b ha hb e => by
    rw [pyd_at h, pyd_at h] at e
    rcases Nat.lt_trichotomy a b with h1 | h1 | h1
    · have := lo a b h1 hb; rw [e] at this; omega
    · exact h1
    · have := lo b a h1 ha; rw [e] at this; omega
  have inj2 : ∀ a b, a < n → b < n → (f' a).pl = (f' b).pl → a = b := fun a b ha hb e => by
    rw [pyd_at h', pyd_at h', epl a ha, epl b hb, ← pyd_at h, ← pyd_at h] at e
    exact inj1 a b ha hb e
  have v1 := wsF_at (d := d) inj1 hk s h.le
  have v2 := wsF_at (d := d') inj2 hk s' h'.le
  rw [pyd_at h, hki] at v1
  rw [pyd_at h', epl k hk, hki] at v2
  have hks' : k < s' := by
    apply Classical.byContradiction
    intro hn
    rw [v2, if_neg hn] at hne
    exact hne rfl
  have hks : k < s := by
    apply Classical.byContradiction
    intro hn
    have hs1 : s < n := by omega
    exact h.no hs1 (Rp.okE_mono (hA s (by omega)) (fun _ => (hTC s hs1).2.1) ((tell s hs1).1.1 (h'.yes s (by omega)).1))
  rw [v1, v2, if_pos hks, if_pos hks', (h.yes k hks).2, (h'.yes k hks').2, (tell k hk).2]
  have hE : 2 * m % Td d k = 0 := by
    have := Nat.dvd_of_mod_eq_zero (hdm k hk).1
    exact Nat.mod_eq_zero_of_dvd (Nat.dvd_trans this (Nat.dvd_mul_left _ _))
  have := Rp.wrst_mono (hdm k hk).2.2 hE (hA k (by omega)) (fun _ => (hTC k hk).2.1) ((tell k hk).1.1 (h'.yes k hks').1)
  constructor
  · omega
  · exact Int.ofNat_le.2 this
theorem same_ws {o : Nat → Bool} {m m' n g g' s s' : Nat} {xs : List Prc} {w w2 u u2 : World} {d d' : Array Wr} {f f' : Nat → Wr} (hx : xs.length = n) (hj : hjB xs xs.length = true) (hpos : ∀ j, j < n → 1 ≤ (xs.getD j dPrc).pe)
    (h : Pyd o (2 * m) n xs w w2 g s d f) (h' : Pyd o (2 * m') n xs u u2 g' s' d' f') (hm : 1 ≤ m) (hm' : 1 ≤ m') (ho : Rp.again o m) (ho' : Rp.again o m') (hT : ∀ j, j < n → (xs.getD j dPrc).pe.toNat ∣ m) (hT' : ∀ j, j < n → (xs.getD j dPrc).pe.toNat ∣ m')
    {i : Nat} (hi : i < n) : wsF d f s i = wsF d' f' s' i := by
  have a := grows_core hx hx (fun _ => rfl) (fun _ => Nat.le_refl _) (fun _ => rfl) hj hpos h h' hm hm' ho ho' hT hT' hi
  have b := grows_core hx hx (fun _ => rfl) (fun _ => Nat.le_refl _) (fun _ => rfl) hj hpos h' h hm' hm ho' ho hT' hT hi
  by_cases e : wsF d' f' s' i = -1
  · by_cases e2 : wsF d f s i = -1
    · rw [e, e2]
    · exact absurd e (b e2).1
  · have := a e
    have := b this.1
    omega
end Go.Proofs.YtnmhcnppdhdhfaaGreatDoor

namespace Go.Proofs.YtnmhcnppdhdhfaaGreatDoor
open Go.RowKit Plain Rp
set_option linter.unusedVariables false
set_option maxRecDepth 100000

/-- the level's place -/
def plc (d : Array Wr) (l : Nat) : Nat := (d[l]!).pl
/-- what the job of level j that is released at tick u takes -/
def takC (zs : List Int) (xs : List Prc) (d : Array Wr) (j u : Nat) : Nat := (tkV zs (xs.getD (plc d j) dPrc).ca (u / Td d j) (plc d j)).toNat

structure Ply (o : Nat → Bool) (m n s : Nat) (xs : List Prc) (d : Array Wr) : Prop where
  len : xs.length = n
  m1 : 1 ≤ m
  sn : s ≤ n
  sur : ∀ i, i < n → ∃ l, l < n ∧ plc d l = i
  lt : ∀ l, l < n → plc d l < n
  lo : ∀ a b, a < b → b < n → prs xs (plc d b) < prs xs (plc d a)
  T : ∀ l, l < n → Td d l = (xs.getD (plc d l) dPrc).pe.toNat
  C : ∀ l, l < n → Cd d l = (xs.getD (plc d l) dPrc).ca.toNat
  pe : ∀ i, i < n → 1 ≤ (xs.getD i dPrc).pe ∧ (xs.getD i dPrc).pe ≤ 2199023255552 ∧ 1 ≤ (xs.getD i dPrc).ca ∧ (xs.getD i dPrc).ca ≤ 2199023255552
  mT : ∀ l, l < n → m % Td d l = 0
  ag : again o m
  ok : ∀ j, j < s → okE (lv o (Td d) (Cd d) j) (fun _ => Cd d j) (Td d j) (2 * m)

theorem ply_of {o : Nat → Bool} {m n g s : Nat} {xs : List Prc} {w w2 : World} {d : Array Wr} {f : Nat → Wr} (h : Pyd o (2 * m) n xs w w2 g s d f) (hx : xs.length = n) (hj : hjB xs xs.length = true) (hT : hasT xs) (hm : 1 ≤ m) (ho : again o m) (hTm : ∀ j, j < n → (xs.getD j dPrc).pe.toNat ∣ m) :
    Ply o m n s xs d ∧ (∀ j, j < s → wsF d f s (plc d j) = ((wrst (lv o (Td d) (Cd d) j) (fun _ => Cd d j) (Td d j) (2 * m) : Nat) : Int)) ∧ ∀ l, s ≤ l → l < n → wsF d f s (plc d l) = -1 := by
  have hinj := jobs_inj hj
  have hps := places_sorted h.pm h.sr hinj
  have hsz := h.sz
  have lo : ∀ a b, a < b → b < n → prs xs (plc d b) < prs xs (plc d a) := fun a b hab hb => by
    have h1 := List.pairwise_iff_getElem.1 hps a b (by simp; omega) (by simp; omega) hab
    have e1 := pl_get (xs := xs) (d := d) (k := a) (by omega)
    have e2 := pl_get (xs := xs) (d := d) (k := b) (by omega)
    rw [List.getElem?_eq_getElem (by simp; omega)] at e1 e2
    injection e1 with e1
    injection e2 with e2
    rw [e1, e2] at h1
    exact h1
  have sur : ∀ i, i < n → ∃ l, l < n ∧ plc d l = i := fun i hi => by
    have hm : i ∈ d.toList.map (·.pl) := (places_perm h.pm).mem_iff.2 (List.mem_range.2 (by omega))
    obtain ⟨k, hk, e⟩ := List.getElem_of_mem hm
    have hk2 : k < n := by simp at hk; omega
    refine ⟨k, hk2, ?_⟩
    have := pl_get (xs := xs) (d := d) (k := k) (by omega)
    rw [List.getElem?_eq_getElem hk, e] at this
    injection this with this
    exact this.symm
  have plt : ∀ l, l < n → plc d l < n := fun l hl => by
    have := pyd_pl h (j := l) hl; rw [pyd_at h] at this; unfold plc; omega
  have inj1 : ∀ a b, a < n → b < n → (f a).pl = (f b).pl → a = b := fun a b ha hb e => by
    rw [pyd_at h, pyd_at h] at e
    have e' : plc d a = plc d b := e
    rcases Nat.lt_trichotomy a b with h1 | h1 | h1
    · have := lo a b h1 hb; rw [e'] at this; omega
    · exact h1
    · have := lo b a h1 ha; rw [e'] at this; omega
  have hw : ∀ l, l < n → wsF d f s (plc d l) = if l < s then ((f l).k.worst : Int) else -1 := fun l hl => by
    have := wsF_at (d := d) inj1 hl s h.le
    rw [pyd_at h] at this
    exact this
  have hTd : ∀ l, l < n → Td d l = (xs.getD (plc d l) dPrc).pe.toNat := fun l hl => (td_at h.pm (k := l) (by omega)).1
  refine ⟨⟨hx, hm, h.le, sur, plt, lo, hTd, fun l hl => (td_at h.pm (k := l) (by omega)).2, fun i hi => ?_, fun l hl => ?_, ho, fun j hj2 => (h.yes j hj2).1⟩, fun j hj2 => ?_, fun l h1 h2 => ?_⟩
  · obtain ⟨a1, a2, a3, a4⟩ := hT i (by omega)
    exact ⟨by omega, a2, by omega, a4⟩
  · rw [hTd l hl]; exact Nat.mod_eq_zero_of_dvd (hTm _ (plt l hl))
  · have := h.le
    rw [hw j (by omega), if_pos hj2, (h.yes j hj2).2]
  · rw [hw l h2, if_neg (by omega)]

section
variable {o : Nat → Bool} {m n s : Nat} {xs : List Prc} {d : Array Wr}
theorem Ply.Tp (h : Ply o m n s xs d) {l : Nat} (hl : l < n) : 0 < Td d l := by
  rw [h.T l hl]; have := (h.pe _ (h.lt l hl)).1; omega
theorem Ply.less (h : Ply o m n s xs d) (zs : List Int) {j : Nat} (hj : j < n) (u : Nat) : takC zs xs d j u ≤ Cd d j := by
  rw [h.C j hj]
  unfold takC
  have := tkV_bd zs (u / Td d j) (plc d j) (h.pe _ (h.lt j hj)).2.2.1
  omega
theorem Ply.okA (h : Ply o m n s xs d) {j : Nat} (hj : j < s) (E : Nat) : okE (lv o (Td d) (Cd d) j) (fun _ => Cd d j) (Td d j) E :=
  okE_again (lv_again h.ag h.m1 j (fun i hi => h.mT i (by have := h.sn; omega))) h.m1 (h.mT j (by have := h.sn; omega)) (h.ok j hj) E
theorem Ply.okR (h : Ply o m n s xs d) (zs : List Int) {j : Nat} (hj : j < s) (E : Nat) : okE (lvR o (Td d) (takC zs xs d) j) (takC zs xs d j) (Td d j) E :=
  okE_mono (lvR_mono j (fun i hi u => h.less zs (by have := h.sn; omega) u)) (fun u => h.less zs (by have := h.sn; omega) u) (h.okA hj E)
/-- no job of a run is later than the play says -/
theorem Ply.resp (h : Ply o m n s xs d) (zs : List Int) {j t : Nat} (hj : j < s) (he : ends (lvR o (Td d) (takC zs xs d) j) (takC zs xs d j) (Td d j) t = true) : t % Td d j + 1 ≤ wrst (lv o (Td d) (Cd d) j) (fun _ => Cd d j) (Td d j) (2 * m) := by
  have hjn : j < n := by have := h.sn; omega
  have hag := lv_again (C := Cd d) h.ag h.m1 j (fun i hi => h.mT i (by omega))
  have hE : 2 * m ≤ 2 * m * (t + 1) := Nat.le_mul_of_pos_right _ (by omega)
  have hE2 : t < 2 * m * (t + 1) := by
    have := h.m1
    have : 1 * (t + 1) ≤ 2 * m * (t + 1) := Nat.mul_le_mul_right _ (by omega)
    omega
  rw [← wrst_again hag h.m1 (h.mT j hjn) _ hE]
  have hEm : 2 * m * (t + 1) % Td d j = 0 := by
    obtain ⟨k, hk⟩ := Nat.dvd_of_mod_eq_zero (h.mT j hjn)
    refine Nat.mod_eq_zero_of_dvd ⟨2 * k * (t + 1), ?_⟩
    rw [hk]
    rw [show 2 * (Td d j * k) = Td d j * (2 * k) by rw [Nat.mul_left_comm], Nat.mul_assoc]
  refine Nat.le_trans (wrst_ge hE2 he) ?_
  exact wrst_mono (h.Tp hjn) hEm (lvR_mono j (fun i hi u => h.less zs (by omega) u)) (fun u => h.less zs hjn u) (h.okA hj _)
/-- the scheme -/
theorem Ply.sch (h : Ply o m n s xs d) (zs : List Int) (v : Nat → Int) (hv1 : ∀ j, j < s → 0 ≤ v (plc d j)) (hv2 : ∀ l, s ≤ l → l < n → v (plc d l) = -1) :
    Sch o (Td d) (takC zs xs d) n s (plc d) (prs xs) v (fun i => (xs.getD i dPrc).pe) (fun ct i => tkV zs (xs.getD i dPrc).ca ct i) where
  sur := h.sur
  lt := h.lt
  lo := h.lo
  sn := h.sn
  ok := fun j hj E => h.okR zs hj E
  nv := hv2
  vp := hv1
  Tp := fun l hl => h.Tp hl
  pe := fun l hl => by
    show (xs.getD (plc d l) dPrc).pe = _
    rw [h.T l hl]
    have := (h.pe _ (h.lt l hl)).1
    omega
  cs := fun j hj u hu => by
    have hjn : j < n := by have := h.sn; omega
    show ((takC zs xs d j u : Nat) : Int) = tkV zs (xs.getD (plc d j) dPrc).ca (u / Td d j) (plc d j)
    unfold takC
    have := tkV_bd zs (u / Td d j) (plc d j) (h.pe _ (h.lt j hjn)).2.2.1
    omega

/-! ### the play itself -/
theorem Ply.full (h : Ply o m n s xs d) {j : Nat} (hj : j < n) : takC [] xs d j = fun _ => Cd d j := by
  funext u
  rw [h.C j hj]
  unfold takC tkV
  rfl
theorem lvR_cong {T : Nat → Nat} {C C' : Nat → Nat → Nat} : ∀ j, (∀ i, i < j → C i = C' i) → lvR o T C j = lvR o T C' j
  | 0, _ => rfl
  | j + 1, h => by
    show nxt (lvR o T C j) (C j) (T j) = nxt (lvR o T C' j) (C' j) (T j)
    rw [lvR_cong j (fun i hi => h i (by omega)), h j (by omega)]
theorem Ply.fullL (h : Ply o m n s xs d) {j : Nat} (hj : j < n) : lvR o (Td d) (takC [] xs d) j = lv o (Td d) (Cd d) j := by
  rw [← lvR_full, lvR_cong j (fun i hi => h.full (show i < n by omega))]
theorem remn_low (A : Nat → Bool) (c T : Nat) : ∀ t, c ≤ remn A (fun _ => c) T t + t % T
  | 0 => by show c ≤ c + 0 % T; omega
  | t + 1 => by
    have ih := remn_low A c T t
    rw [remn_succ]
    split
    · omega
    · rename_i h
      unfold aft
      have e : (t + 1) % T = t % T + 1 := by
        by_cases hT : T = 0
        · subst hT; rw [Nat.mod_zero, Nat.mod_zero]
        · have h2 := Nat.mod_lt t (show 0 < T by omega)
          rw [Nat.add_mod]
          by_cases h1 : T = 1
          · subst h1; exact absurd (Nat.mod_one _) h
          · rw [Nat.mod_eq_of_lt (show 1 < T by omega)]
            by_cases h3 : t % T + 1 < T
            · exact Nat.mod_eq_of_lt h3
            · have h4 : t % T + 1 = T := by omega
              exfalso; apply h
              rw [Nat.add_mod, Nat.mod_eq_of_lt (show 1 < T by omega), h4, Nat.mod_self]
      split <;> omega
/-- there is a job with just that response, and it is at least the capacity and at most the period -/
theorem Ply.tight (h : Ply o m n s xs d) {j : Nat} (hj : j < s) :
    (∃ t, t < 2 * m ∧ ends (lv o (Td d) (Cd d) j) (fun _ => Cd d j) (Td d j) t = true ∧ t % Td d j + 1 = wrst (lv o (Td d) (Cd d) j) (fun _ => Cd d j) (Td d j) (2 * m)) ∧ Cd d j ≤ wrst (lv o (Td d) (Cd d) j) (fun _ => Cd d j) (Td d j) (2 * m) ∧ wrst (lv o (Td d) (Cd d) j) (fun _ => Cd d j) (Td d j) (2 * m) ≤ Td d j := by
  have hjn : j < n := by have := h.sn; omega
  have hT := h.Tp hjn
  have hC : 1 ≤ Cd d j := by rw [h.C j hjn]; have := (h.pe _ (h.lt j hjn)).2.2.1; omega
  have hTm : Td d j ≤ 2 * m := by
    have := Nat.le_of_dvd h.m1 (Nat.dvd_of_mod_eq_zero (h.mT j hjn))
    omega
  have ha := h.ok j hj (Td d j) hT hTm (Nat.mod_self _)
  obtain ⟨t, ht, he⟩ := ends_later (A := lv o (Td d) (Cd d) j) (C := fun _ => Cd d j) (T := Td d j) (Td d j - 1) 0 hC (by rw [Nat.zero_add]; exact ha) (fun i h1 h2 => by rw [Nat.zero_add, Nat.mod_eq_of_lt (by omega)]; omega)
  rw [Nat.zero_add] at he
  have hge := wrst_ge (E := 2 * m) (by omega) he
  obtain ⟨u, hu, hue, hur⟩ := wrst_has (A := lv o (Td d) (Cd d) j) (C := fun _ => Cd d j) (T := Td d j) (E := 2 * m) (by omega)
  refine ⟨⟨u, hu, hue, hur⟩, ?_, ?_⟩
  · have := remn_low (lv o (Td d) (Cd d) j) (Cd d j) (Td d j) u
    unfold ends at hue
    simp only [Bool.and_eq_true, decide_eq_true_eq] at hue
    omega
  · rw [← hur]
    exact Nat.mod_lt u hT
end
end Go.Proofs.YtnmhcnppdhdhfaaGreatDoor

namespace Go.Proofs.YtnmhcnppdhdhfaaGreatDoor
open Go.RowKit Plain
set_option linter.unusedVariables false
set_option linter.unusedSimpArgs false
set_option maxRecDepth 100000

theorem mult_err {F : Nat → Prop} {a0 : Option Addr} {n0 c0 : Nat} {a1 : Option Addr} {n1 c1 : Nat} {a2 : Option Addr} {n2 c2 : Nat} {x : Im} (p : Int) (w : World) (hg : Gl w) (hO : Lg.Ops w) (h : Img w F a0 n0 c0 a1 n1 c1 a2 n2 c2 x) (he : woE x p ≠ 0) :
    Calls Tryz.prog 15 #[.agg #[.slice a0 n0 c0, .slice a1 n1 c1, .slice a2 n2 c2], .int .i64 p] w fun e w' => e = .returned (.tuple #[.int .i64 0, .int .i64 (woE x p)]) ∧ Kept No w w' := by
  have hi := h
  have hlen := h.ps.len
  have hgk := hg
  have hok := hO
  unfold woE at he ⊢
  by_cases h1 : fe (chkF x) ≠ 0
  · rw [if_pos h1]
    exact mul_refused p _ hgk hi h1
  · have hz : fe (chkF x) = 0 := by omega
    rw [if_neg h1] at he ⊢
    by_cases h2 : p < 1 ∨ (x.parts.length : Int) < p
    · rw [if_pos h2]
      exact mul_out p _ hgk hi hz (by rw [hlen] at h2; exact h2)
    · rw [if_neg h2] at he ⊢
      obtain ⟨q, rfl⟩ := Int.eq_ofNat_of_zero_le (show 0 ≤ p by omega)
      rw [Int.toNat_natCast] at he ⊢
      by_cases h3 : rfitB (x.parts.getD (q - 1) dPn) = false
      · rw [if_pos h3]
        exact mul_unfit q _ hgk hok hi hz (by omega) (by omega) h3
      · rw [if_neg h3] at he ⊢
        by_cases h4 : lcmB (zR (hyp (svs x.parts)) (x.parts.getD (q - 1) dPn).procs) ((x.parts.getD (q - 1) dPn).procs.length + 1) 1048576 = false
        · rw [if_pos h4]
          have hn := chk_none hz
          have ht : timF (svs x.parts) n0 = none := by rw [← hlen]; exact chk_tim hn
          have hnp := chk_np hn (i := q - 1) (by omega)
          have := mul_yes q _ hgk hok hi hz (by omega) (by omega) (by simpa using h3) ht (by omega)
          unfold mulV at this
          rw [h4] at this
          exact this
        · rw [if_neg h4] at he; exact absurd rfl he

set_option maxHeartbeats 4000000 in
theorem span_err {F : Nat → Prop} {a0 : Option Addr} {n0 c0 : Nat} {a1 : Option Addr} {n1 c1 : Nat} {a2 : Option Addr} {n2 c2 : Nat} {x : Im} (p : Int) (w : World) (hg : Gl w) (hO : Lg.Ops w) (h : Img w F a0 n0 c0 a1 n1 c1 a2 n2 c2 x) (he : woE x p ≠ 0) :
    Calls Tryz.prog 11 #[.agg #[.slice a0 n0 c0, .slice a1 n1 c1, .slice a2 n2 c2], .int .i64 p] w fun e w' => e = .returned (.tuple #[.int .i64 0, .int .i64 (woE x p)]) ∧ Kept No w w' := by
  obtain ⟨K0, HM0⟩ := imb w (.slice a0 n0 c0) (.slice a1 n1 c1) (.slice a2 n2 c2)
  obtain ⟨m0, m1, m2, _⟩ := HM0 _ (Kept.refl _ _)
  have cM := mult_err p _ (hg.kept K0) (ops_kept hO K0 (fun h => h)) (h.kept K0 (fun _ _ h => h)) he
  have HK0 : Hid (Kept No w _) := K0
  obtain ⟨er, her⟩ : ∃ er, er = woE x p := ⟨_, rfl⟩
  rw [← her] at cM he ⊢
  have e1 : (er != 0) = true := by simpa using he
  clear HM0 K0 h hg hO her
  go_enter Tryz.func11, Tryz.ntmps11
  go_wp2_with (go_at_call 15; refine cM.mono ?_; clear cM; rintro e w1 ⟨rfl, k1⟩; have HK1 : Hid (Kept No w w1) := HK0.out.trans k1 (fun _ h => h.elim); clear k1)
  go_ret2
  exact ⟨rfl, HK1.out⟩
set_option maxHeartbeats 4000000 in
theorem span_yes {F : Nat → Prop} {a0 : Option Addr} {n0 c0 : Nat} {a1 : Option Addr} {n1 c1 : Nat} {a2 : Option Addr} {n2 c2 : Nat} {x : Im} (p : Nat) (w : World) (hg : Gl w) (hO : Lg.Ops w) (h : Img w F a0 n0 c0 a1 n1 c1 a2 n2 c2 x) (hchk : chkF x = none) (hp1 : 1 ≤ p) (hp2 : p ≤ n0) (hf : rfitB (x.parts.getD (p - 1) dPn) = true) (hl : lcmB (zR (hyp (svs x.parts)) (x.parts.getD (p - 1) dPn).procs) ((x.parts.getD (p - 1) dPn).procs.length + 1) 1048576 = true) :
    ∃ m : Nat, 1 ≤ m ∧ m ≤ 1048576 ∧ hyp (svs x.parts) ∣ m ∧ (∀ j, j < (x.parts.getD (p - 1) dPn).procs.length → ((x.parts.getD (p - 1) dPn).procs.getD j dPrc).pe.toNat ∣ m) ∧
    Calls Tryz.prog 11 #[.agg #[.slice a0 n0 c0, .slice a1 n1 c1, .slice a2 n2 c2], .int .i64 (p : Int)] w fun e w' => e = .returned (.tuple #[.int .i64 ((2 * m : Nat) : Int), .int .i64 0]) ∧ Kept No w w' := by
  obtain ⟨K0, HM0⟩ := imb w (.slice a0 n0 c0) (.slice a1 n1 c1) (.slice a2 n2 c2)
  obtain ⟨m0, m1, m2, _⟩ := HM0 _ (Kept.refl _ _)
  have hlen := h.ps.len
  have ht : timF (svs x.parts) n0 = none := by rw [← hlen]; exact chk_tim hchk
  have hnp := chk_np hchk (i := p - 1) (by omega)
  obtain ⟨m, hm0, hm1, hm2, hH, hH1, hper⟩ := mul_num hl
  have cM := mul_yes p _ (hg.kept K0) (ops_kept hO K0 (fun h => h)) (h.kept K0 (fun _ _ h => h)) (by rw [hchk]; rfl) hp1 hp2 hf ht (by omega)
  unfold mulV at cM
  rw [hl, if_pos rfl, hm0] at cM
  refine ⟨m, hm1, hm2, hH, fun j hj => (hper j hj).2.2, ?_⟩
  have HK0 : Hid (Kept No w _) := K0
  have hz : (2 : Int) * (m : Int) = ((2 * m : Nat) : Int) := by omega
  have HZ : Hid ((2 : Int) * (m : Int) = ((2 * m : Nat) : Int)) := hz
  obtain ⟨zm, hzm⟩ : ∃ zm : Int, zm = m := ⟨_, rfl⟩
  rw [← hzm] at cM HZ
  have b1 : 1 ≤ zm := by omega
  have b2 : zm ≤ 1048576 := by omega
  clear HM0 K0 h hg hO hz hl hf ht hm0 hm1 hm2 hH hH1 hper hnp hzm hchk
  go_enter Tryz.func11, Tryz.ntmps11
  go_wp2_with (go_at_call 15; refine cM.mono ?_; clear cM; rintro e w1 ⟨rfl, k1⟩; have HK1 : Hid (Kept No w w1) := HK0.out.trans k1 (fun _ h => h.elim); clear k1)
  go_ret2
  exact ⟨by rw [← HZ.out]; rfl, HK1.out⟩
end Go.Proofs.YtnmhcnppdhdhfaaGreatDoor

namespace Go.Proofs.YtnmhcnppdhdhfaaGreatDoor
open Go.RowKit Plain
set_option linter.unusedVariables false
set_option linter.unusedSimpArgs false
set_option maxRecDepth 100000

theorem own_base {w : World} {B base : Nat} {e : TypeId} {sz : Nat} {v : Value} {n : Nat} {xs : List Value} (h : w.ownsRow B e sz v n xs) (hb : base ≤ B) : w.ownsRow base e sz v n xs := by
  refine ⟨h.1, ?_⟩
  rcases h.2 with h1 | ⟨g, cap, cur, hv, hb', r⟩
  · exact .inl h1
  · exact .inr ⟨g, cap, cur, hv, Nat.le_trans hb hb', r⟩
set_option maxHeartbeats 8000000 in
theorem lservers_any (F : Nat → Prop) (a : Option Addr) (n c : Nat) (v1 v2 : Value) (xs : List Pn) (w : World) (h : Ls 21 elPn w F a n c xs) (hn : n ≤ 70000) :
    Calls Tryz.prog 9 #[.agg #[.slice a n c, v1, v2]] w fun e w' => ∃ v, e = .returned v ∧ w'.ownsRow w.heap.size 39 4 v n (fl (svs xs)) ∧ Kept No w w' := by
  obtain ⟨i0, hi, hz0, hz1, hz2⟩ := info_parts Tryz.infoS
  have H : Hid (Ls 21 elPn w F a n c xs) := h
  have K0 : Hid (Kept No w (w.alloc (.cells #[.slice a n c, v1, v2] 26))) := (Kept.refl No w).alloc _
  have c0 : (w.alloc (.cells #[.slice a n c, v1, v2] 26)).cell? ⟨w.heap.size, 0, none⟩ = some (.slice a n c) := by simp
  clear h
  go_enter Tryz.func9, Tryz.ntmps9
  go_wp2
  have HBX : Hid (∀ W, Kept No (w.alloc (.cells #[.slice a n c, v1, v2] 26)) W → W.cell? ⟨w.heap.size, 0, none⟩ = some (.slice a n c)) := fun W k => k.cell (by simp) (fun h => h)
  clear c0
  generalize w.alloc (.cells #[.slice a n c, v1, v2] 26) = wb at *
  go_loopw [3, 4] (fun v x wr => ∃ k : Nat, k ≤ n ∧ x = .int .i64 k ∧ Kept No wb wr ∧ wr.ownsRow wb.heap.size 39 4 v k (fl ((svs xs).take k))) (fun _ x _ => n - (intOf x).toNat)
  case atStart => exact ⟨0, by omega, rfl, Kept.refl _ _, ⟨rfl, .inl ⟨rfl, rfl⟩⟩⟩
  case round =>
    obtain ⟨k, hk, rfl, hkb, hown⟩ := hrel
    have bx := HBX.out wr hkb
    have hkr := K0.out.trans hkb (fun _ h => h.elim)
    have HKB := hid hkb
    clear hkb
    by_cases hlt : k < n
    · have hx : xs[k]? = some (xs.getD k dPn) := by rw [List.getD, List.getElem?_eq_getElem (by rw [H.out.len]; exact hlt)]; rfl
      obtain ⟨b, o, cs, rfl, hb, hl, hr, hE⟩ := H.out.at' k _ hx
      have HNX : Hid (fl ((svs xs).take (k + 1)) = fl ((svs xs).take k) ++ fl [pnSv (xs.getD k dPn)]) := by
        show fl ((svs xs).take (k + 1)) = _
        rw [← fl_app, List.take_add_one, svs, List.getElem?_map, hx]
        rfl
      have HL : Hid ((fl ((svs xs).take k)).length = k * 4) := by show (fl ((svs xs).take k)).length = k * 4; rw [fl_len, List.length_take, svs, List.length_map, H.out.len]; congr 1; omega
      generalize fl ((svs xs).take k) = L0 at *
      generalize xs.getD k dPn = y at *
      obtain ⟨ya, yb, yc, yd, cs0, he⟩ : ∃ ya yb yc yd cs0, cs = .int .i64 ya :: .int .i64 yb :: .int .i64 yc :: .int .i64 yd :: cs0 := by
        obtain ⟨a0, n0, c0, a1, n1, c1, a2, n2, c2, a3, n3, c3, a4, n4, c4, a5, n5, c5, e, _⟩ := hE.sl
        exact ⟨_, _, _, _, _, e⟩
      have hy : pnSv y = ⟨ya, yb, yc, yd⟩ := by
        obtain ⟨a0, n0, c0, a1, n1, c1, a2, n2, c2, a3, n3, c3, a4, n4, c4, a5, n5, c5, e, _⟩ := hE.sl
        rw [he] at e
        simp only [List.cons.injEq, Value.int.injEq, true_and] at e
        obtain ⟨e1, e2, e3, e4, _⟩ := e
        rw [pnSv, e1, e2, e3, e4]
      rw [hy] at HNX
      generalize wr = w1 at *
      have HW : Hid (Kept No w w1) := hkr
      have HOW : Hid (w1.ownsRow wb.heap.size 39 4 u3 k L0) := hown
      have hcap : k ≤ c := by have := H.out.cap; omega
      have hn' : n ≤ 9223372036854775807 := by omega
      have hrg := rangeAt_kept hr hkr (fun h => h)
      rw [he] at hrg
      have d0 := hrg 0 _ rfl
      have d1 := hrg 1 _ rfl
      have d2 := hrg 2 _ rfl
      have d3 := hrg 3 _ rfl
      rw [Nat.add_zero] at d0
      have hkn : (k : Int) < (n : Int) := by omega
      clear hkr hr hl hE hx hown hb he hy hrg
      go_wp2_with (at_builtin; refine wpList_append_own_at _ rfl _ _ 36 rfl wb.heap.size 39 i0 (.agg #[.int .i64 0, .int .i64 0, .int .i64 0, .int .i64 0]) 4 32 Tryz.underlying36 hi hz0 hz1 hz2 rfl (by decide) _ _ _ rfl (HOW.out.alloc _) ⟨w1.heap.size, 0, none⟩ 1 1 (fl [⟨ya, yb, yc, yd⟩]) rfl rfl (cell_four w1 ⟨ya, yb, yc, yd⟩ _) (fl_one _) (by unfold maxLen; omega) (by omega) (by have := HKB.out.size; simp; omega) ?_; intro v1 w6 own1 grow1 _ at1)
      have HK6 : Hid (Kept No wb w6 ∧ w6.ownsRow wb.heap.size 39 4 v1 (k + 1) (fl ((svs xs).take (k + 1)))) := by
        exact ⟨(HKB.out.alloc _).grown grow1 (fun g e => .inr (HOW.out.lt g e).1), by rw [HNX.out]; exact own1⟩
      clear own1 grow1 at1
      go_wp2
      go_roundw
      case rel => exact ⟨k + 1, by omega, by go_num, HK6.out.1, HK6.out.2⟩
      case measure => simp [intOf]; omega
    · have hke : k = n := by omega
      subst hke
      have HO : Hid (wr.ownsRow w.heap.size 39 4 u3 k (fl (svs xs))) := by
        refine own_base (B := wb.heap.size) ?_ K0.out.size
        rw [List.take_of_length_le (by rw [svs, List.length_map, H.out.len]; exact Nat.le_refl _)] at hown
        exact hown
      have HKR : Hid (Kept No w wr) := hkr
      clear hown hkr
      go_wp2
      go_ret
      exact ⟨_, rfl, HO.out, HKR.out⟩
end Go.Proofs.YtnmhcnppdhdhfaaGreatDoor
