/-
  One text: YSq, RGrw, YInT, YGrA.
-/
import Derived.Test.YtknobeiggmghoaaGreatDoorG46
import Derived.Test.YtknobeiggmghoaaGreatDoorG41
import Derived.Test.YtknobeiggmghoaaGreatDoorG47
import Derived.Deep.RegionWith
import Derived.Deep.DeepCutAuto
namespace Go.Proofs.YtknobeiggmghoaaGreatDoor
open Go.RowKit Plain
set_option linter.unusedVariables false
set_option linter.unusedSimpArgs false
set_option maxRecDepth 100000

/-- a list of partitions, and where the processes of the one at q lie -/
structure LsQ (w : World) (lo hi : Nat) (b o n c q g of n2 c2 : Nat) (l : List Pn) (p : Pn) : Prop where
  ls : LsP w lo hi (some ⟨b, o, none⟩) n c l
  hq : l[q]? = some p
  c8 : w.cell? ⟨b, o + q * 21 + 8, none⟩ = some (.slice (some ⟨g, of, none⟩) n2 c2)
  pr : Ls 6 elPrc w (fun g => lo ≤ g ∧ g < hi) (some ⟨g, of, none⟩) n2 c2 p.procs
  fz : ∀ j, w.frozen? ⟨g, j, none⟩ = false
  rg : lo ≤ g ∧ g < hi ∧ g ≠ b
theorem LsQ.of {w : World} {lo hi : Nat} {a : Option Addr} {n c q : Nat} {l : List Pn} {p : Pn} (h : LsP w lo hi a n c l) (hq : l[q]? = some p) (hp : 0 < p.procs.length) : ∃ b o g of n2 c2, a = some ⟨b, o, none⟩ ∧ n2 = p.procs.length ∧ LsQ w lo hi b o n c q g of n2 c2 l p := by
  obtain ⟨b, o, a2, n2, c2, rfl, h8, _, _, hL, hW⟩ := h.procs hq
  obtain ⟨y, hy⟩ : ∃ y, p.procs[0]? = some y := ⟨_, List.getElem?_eq_getElem hp⟩
  obtain ⟨g, of, cs, rfl, hb, _⟩ := hL.at' 0 y hy
  have hn := hL.len
  obtain ⟨f1, f2, f3, f4, _⟩ := hW g of rfl (by omega)
  exact ⟨b, o, g, of, n2, c2, rfl, hn.symm, h, hq, h8, hL, f1, f2, f3, f4⟩
theorem LsQ.cells {w : World} {lo hi b o n c q g of n2 c2 : Nat} {l : List Pn} {p : Pn} (h : LsQ w lo hi b o n c q g of n2 c2 l p) {j : Nat} {z : Prc} (hz : p.procs[j]? = some z) {f : Nat} {v : Value} (hv : (clPrc z)[f]? = some v) : w.cell? ⟨g, of + j * 6 + f, none⟩ = some v := by
  obtain ⟨b', o', cs, e, hb, hl, hr, hE, ho⟩ := h.pr.at' j z hz
  injection e with e
  injection e with e1 e2 _
  subst e1 e2
  have hE2 : cs = clPrc z := hE
  subst hE2
  exact hr f v hv
theorem LsQ.set {w : World} {lo hi b o n c q g of n2 c2 : Nat} {l : List Pn} {p : Pn} (h : LsQ w lo hi b o n c q g of n2 c2 l p) {j : Nat} {z z' : Prc} {f : Nat} {v : Value} (hz : p.procs[j]? = some z) (hc : clPrc z' = (clPrc z).set f v) (hf : f < 6) (hok : okPrc z') : LsQ (w.setCell ⟨g, of + j * 6 + f, none⟩ v) lo hi b o n c q g of n2 c2 (l.set q (setPr p j z')) (setPr p j z') := by
  obtain ⟨b1, o1, a2, m2, d2, e1, h8, _, _, hL, hW⟩ := h.ls.procs h.hq
  injection e1 with e1
  injection e1 with e1 e2 _
  subst e1 e2
  rw [h.c8] at h8
  injection h8 with h8
  injection h8 with x1 x2 x3
  subst x1 x2 x3
  have hjl : j < p.procs.length := (List.getElem?_eq_some_iff.1 hz).1
  have hlen := hL.len
  obtain ⟨f1, f2, f3, f4, hS⟩ := hW g of rfl (by omega)
  have hn := hS j z z' f v hz hc hf hok
  have hql : q < l.length := (List.getElem?_eq_some_iff.1 h.hq).1
  have hq' : (l.set q (setPr p j z'))[q]? = some (setPr p j z') := List.getElem?_set_self hql
  have k : Kept (fun k => k = g) w (w.setCell ⟨g, of + j * 6 + f, none⟩ v) := (Kept.refl (fun k => k = g) w).setCell (p := ⟨g, of + j * 6 + f, none⟩) (.inl rfl) _
  exact ⟨hn, hq', k.cell h.c8 (fun e => f4 e.symm), hL.setOne hz hc hf hok, fun x => by rw [World.frozen?_setCell]; exact f1 x, f2, f3, f4⟩
theorem LsQ.kept {w w' : World} {lo hi b o n c q g of n2 c2 : Nat} {l : List Pn} {p : Pn} (h : LsQ w lo hi b o n c q g of n2 c2 l p) (k : Kept No w w') (hs : hi ≤ w.heap.size) : LsQ w' lo hi b o n c q g of n2 c2 l p :=
  ⟨h.ls.kept k hs (fun _ _ _ h => h), h.hq, k.cell h.c8 (fun h => h), h.pr.kept k (fun _ _ h => h) (elPrc_kept k (fun _ _ h => h)), fz_kept k (fun h => h) (by have := h.rg; omega) h.fz, h.rg⟩
/-- the process with another period, limit and capacity -/
def chPr (z : Prc) (t c : Int) : Prc := ⟨z.en, z.pr, t, t, c, z.auto⟩
def chIm (x : Im) (q j : Nat) (t c : Int) : Im := ⟨x.parts.set q (setPr (x.parts.getD q dPn) j (chPr ((x.parts.getD q dPn).procs.getD j dPrc) t c)), x.ports, x.chans⟩
theorem chIm_parts {x : Im} {q j : Nat} {t c : Int} (hq : q < x.parts.length) : (chIm x q j t c).parts.getD q dPn = setPr (x.parts.getD q dPn) j (chPr ((x.parts.getD q dPn).procs.getD j dPrc) t c) := by
  unfold chIm
  simp [List.getD, hq]
theorem chIm_svs {x : Im} {q j : Nat} {t c : Int} : svs (chIm x q j t c).parts = svs x.parts := by
  unfold svs chIm
  simp only
  rw [List.map_set]
  by_cases hq : q < x.parts.length
  · have : pnSv (setPr (x.parts.getD q dPn) j (chPr ((x.parts.getD q dPn).procs.getD j dPrc) t c)) = (x.parts.map pnSv)[q]'(by simpa using hq) := by
      simp [pnSv, setPr, List.getD, hq]
    rw [this, List.set_getElem_self]
  · rw [List.set_eq_of_length_le (by simp; omega)]
theorem chIm_len {x : Im} {q j : Nat} {t c : Int} : (chIm x q j t c).parts.length = x.parts.length := by unfold chIm; simp
end Go.Proofs.YtknobeiggmghoaaGreatDoor

namespace Go.Proofs.YtknobeiggmghoaaGreatDoor
open Go.RowKit Plain
set_option linter.unusedVariables false
set_option maxRecDepth 100000

theorem lv_mono {o : Nat → Bool} {T C T' C' : Nat → Nat} : ∀ j, (∀ i, i < j → T i = T' i ∧ C i ≤ C' i) → ∀ t, lv o T' C' j t = true → lv o T C j t = true
  | 0, _, t, h => h
  | j + 1, h, t, ht => by
    have e := (h j (by omega)).1
    have h2 : Rp.nxt (lv o T' C' j) (fun _ => C' j) (T' j) t = true := ht
    rw [← e] at h2
    exact Rp.nxt_mono (lv_mono j (fun i hi => h i (by omega))) (fun _ => (h j (by omega)).2) t h2
theorem grows_core {o : Nat → Bool} {m m' n g g' s s' : Nat} {xs ys : List Prc} {w w2 u u2 : World} {d d' : Array Wr} {f f' : Nat → Wr} (hx : xs.length = n) (hy : ys.length = n) (hpe : ∀ a, (ys.getD a dPrc).pe = (xs.getD a dPrc).pe) (hca : ∀ a, (xs.getD a dPrc).ca.toNat ≤ (ys.getD a dPrc).ca.toNat) (hpr : ∀ i, prs ys i = prs xs i) (hj : hjB xs xs.length = true) (hpos : ∀ j, j < n → 1 ≤ (xs.getD j dPrc).pe)
    (h : Pyd o (2 * m) n xs w w2 g s d f) (h' : Pyd o (2 * m') n ys u u2 g' s' d' f') (hm : 1 ≤ m) (hm' : 1 ≤ m') (ho : Rp.again o m) (ho' : Rp.again o m') (hT : ∀ j, j < n → (xs.getD j dPrc).pe.toNat ∣ m) (hT' : ∀ j, j < n → (ys.getD j dPrc).pe.toNat ∣ m')
    {i : Nat} (hi : i < n) (hne : wsF d' f' s' i ≠ -1) : wsF d f s i ≠ -1 ∧ wsF d f s i ≤ wsF d' f' s' i := by
  have hinj := jobs_inj hj
  have hpl := places_eq (by omega) hpr hinj h.pm h.sr h'.pm h'.sr
  have hps := places_sorted h.pm h.sr hinj
  have hsz := h.sz
  have hsz' := h'.sz
  have epl : ∀ k, k < n → (d'[k]!).pl = (d[k]!).pl := fun k hk => by
    have a1 := pl_get (xs := xs) (d := d) (k := k) (by omega)
    have a2 := pl_get (xs := xs) (d := d') (k := k) (by omega)
    rw [hpl, a2] at a1
    injection a1
  have lo : ∀ a b, a < b → b < n → prs xs (d[b]!).pl < prs xs (d[a]!).pl := fun a b hab hb => by
    have h1 := List.pairwise_iff_getElem.1 hps a b (by simp; omega) (by simp; omega) hab
    have e1 := pl_get (xs := xs) (d := d) (k := a) (by omega)
    have e2 := pl_get (xs := xs) (d := d) (k := b) (by omega)
    rw [List.getElem?_eq_getElem (by simp; omega)] at e1 e2
    injection e1 with e1
    injection e2 with e2
    rw [e1, e2] at h1
    exact h1
  obtain ⟨k, hk, hki⟩ : ∃ k, k < n ∧ (d[k]!).pl = i := by
    have hm : i ∈ d.toList.map (·.pl) := (places_perm h.pm).mem_iff.2 (List.mem_range.2 (by omega))
    obtain ⟨k, hk, e⟩ := List.getElem_of_mem hm
    have hk2 : k < n := by simp at hk; omega
    refine ⟨k, hk2, ?_⟩
    have := pl_get (xs := xs) (d := d) (k := k) (by omega)
    rw [List.getElem?_eq_getElem hk, e] at this
    injection this with this
    exact this.symm
  have pl_lt : ∀ j, j < n → (d[j]!).pl < n := fun j hj2 => by
    have := pyd_pl h (j := j) hj2; rw [pyd_at h] at this; omega
  have hTC : ∀ j, j < n → Td d j = Td d' j ∧ Cd d j ≤ Cd d' j ∧ Td d j = (xs.getD (d[j]!).pl dPrc).pe.toNat := fun j hj2 => by
    obtain ⟨a1, a2⟩ := td_at h.pm (k := j) (by omega)
    obtain ⟨b1, b2⟩ := td_at h'.pm (k := j) (by omega)
    rw [a1, a2, b1, b2, epl j hj2, hpe]
    exact ⟨rfl, hca _, rfl⟩
  have hdm : ∀ j, j < n → m % Td d j = 0 ∧ m' % Td d j = 0 ∧ 0 < Td d j := fun j hj2 => by
    have e := (hTC j hj2).2.2
    have hl := pl_lt j hj2
    refine ⟨by rw [e]; exact Nat.mod_eq_zero_of_dvd (hT _ hl), ?_, ?_⟩
    · rw [e, ← hpe]; exact Nat.mod_eq_zero_of_dvd (hT' _ hl)
    · rw [e]; have := hpos _ hl; omega
  -- the document's answer of the second at the first one's end
  have tell : ∀ j, j < n → (Rp.okE (lv o (Td d') (Cd d') j) (fun _ => Cd d' j) (Td d' j) (2 * m') ↔ Rp.okE (lv o (Td d') (Cd d') j) (fun _ => Cd d' j) (Td d j) (2 * m)) ∧ Rp.wrst (lv o (Td d') (Cd d') j) (fun _ => Cd d' j) (Td d' j) (2 * m') = Rp.wrst (lv o (Td d') (Cd d') j) (fun _ => Cd d' j) (Td d j) (2 * m) := fun j hj2 => by
    rw [← (hTC j hj2).1]
    refine told_same (lv_again ho' hm' j (fun i hi => ?_)) (lv_again ho hm j (fun i hi => ?_)) hm' hm (hdm j hj2).2.1 (hdm j hj2).1
    · rw [← (hTC i (by omega)).1]; exact (hdm i (by omega)).2.1
    · rw [← (hTC i (by omega)).1]; exact (hdm i (by omega)).1
  have hA : ∀ j, j ≤ n → ∀ t, lv o (Td d') (Cd d') j t = true → lv o (Td d) (Cd d) j t = true := fun j hj2 => lv_mono j (fun i hi => ⟨(hTC i (by omega)).1, (hTC i (by omega)).2.1⟩)
  have inj1 : ∀ a b, a < n → b < n → (f a).pl = (f b).pl → a = b := fun a b ha hb e => by
    rw [pyd_at h, pyd_at h] at e
    rcases Nat.lt_trichotomy a b with h1 | h1 | h1
    · have := lo a b h1 hb; rw [e] at this; omega
    · exact h1
    · have := lo b a h1 ha; rw [e] at this; omega
  have inj2 : ∀ a b, a < n → b < n → (f' a).pl = (f' b).pl → a = b := fun a b ha hb e => by
    rw [pyd_at h', pyd_at h', epl a ha, epl b hb, ← pyd_at h, ← pyd_at h] at e
    exact inj1 a b ha hb e
  have v1 := wsF_at (d := d) inj1 hk s h.le
  have v2 := wsF_at (d := d') inj2 hk s' h'.le
  rw [pyd_at h, hki] at v1
  rw [pyd_at h', epl k hk, hki] at v2
  have hks' : k < s' := by
    apply Classical.byContradiction
    intro hn
    rw [v2, if_neg hn] at hne
    exact hne rfl
  have hks : k < s := by
    apply Classical.byContradiction
    intro hn
    have hs1 : s < n := by omega
    exact h.no hs1 (Rp.okE_mono (hA s (by omega)) (fun _ => (hTC s hs1).2.1) ((tell s hs1).1.1 (h'.yes s (by omega)).1))
  rw [v1, v2, if_pos hks, if_pos hks', (h.yes k hks).2, (h'.yes k hks').2, (tell k hk).2]
  have hE : 2 * m % Td d k = 0 := by
    have := Nat.dvd_of_mod_eq_zero (hdm k hk).1
    exact Nat.mod_eq_zero_of_dvd (Nat.dvd_trans this (Nat.dvd_mul_left _ _))
  have := Rp.wrst_mono (hdm k hk).2.2 hE (hA k (by omega)) (fun _ => (hTC k hk).2.1) ((tell k hk).1.1 (h'.yes k hks').1)
  constructor
  · omega
  · exact Int.ofNat_le.2 this
theorem same_ws {o : Nat → Bool} {m m' n g g' s s' : Nat} {xs : List Prc} {w w2 u u2 : World} {d d' : Array Wr} {f f' : Nat → Wr} (hx : xs.length = n) (hj : hjB xs xs.length = true) (hpos : ∀ j, j < n → 1 ≤ (xs.getD j dPrc).pe)
    (h : Pyd o (2 * m) n xs w w2 g s d f) (h' : Pyd o (2 * m') n xs u u2 g' s' d' f') (hm : 1 ≤ m) (hm' : 1 ≤ m') (ho : Rp.again o m) (ho' : Rp.again o m') (hT : ∀ j, j < n → (xs.getD j dPrc).pe.toNat ∣ m) (hT' : ∀ j, j < n → (xs.getD j dPrc).pe.toNat ∣ m')
    {i : Nat} (hi : i < n) : wsF d f s i = wsF d' f' s' i := by
  have a := grows_core hx hx (fun _ => rfl) (fun _ => Nat.le_refl _) (fun _ => rfl) hj hpos h h' hm hm' ho ho' hT hT' hi
  have b := grows_core hx hx (fun _ => rfl) (fun _ => Nat.le_refl _) (fun _ => rfl) hj hpos h' h hm' hm ho' ho hT' hT hi
  by_cases e : wsF d' f' s' i = -1
  · by_cases e2 : wsF d f s i = -1
    · rw [e, e2]
    · exact absurd e (b e2).1
  · have := a e
    have := b this.1
    omega
end Go.Proofs.YtknobeiggmghoaaGreatDoor

namespace Go.Proofs.YtknobeiggmghoaaGreatDoor
open Go.RowKit Plain
set_option linter.unusedVariables false
set_option linter.unusedSimpArgs false
set_option maxRecDepth 100000

theorem inTime_e {F : Nat → Prop} {a0 : Option Addr} {n0 c0 : Nat} {a1 : Option Addr} {n1 c1 : Nat} {a2 : Option Addr} {n2 c2 : Nat} {x : Im} (p : Int) (w : World) (hg : Gl w) (hO : Lg.Ops w) (h : Img w F a0 n0 c0 a1 n1 c1 a2 n2 c2 x) (he : woE x p ≠ 0) :
    Calls Tryz.prog 6 #[.agg #[.slice a0 n0 c0, .slice a1 n1 c1, .slice a2 n2 c2], .int .i64 p] w fun e w' => e = .returned (.tuple #[.bool false, .int .i64 (woE x p)]) ∧ Kept No w w' := by
  obtain ⟨K0, _⟩ := imb w (.slice a0 n0 c0) (.slice a1 n1 c1) (.slice a2 n2 c2)
  exact inTime_err _ _ _ p _ w he (worst_err p _ (hg.kept K0) (ops_kept hO K0 (fun h => h)) (h.kept K0 (fun _ _ h => h)) he)
theorem inTime_z {F : Nat → Prop} {a0 : Option Addr} {n0 c0 : Nat} {a1 : Option Addr} {n1 c1 : Nat} {a2 : Option Addr} {n2 c2 : Nat} {x : Im} (p : Nat) (w : World) (hg : Gl w) (hO : Lg.Ops w) (h : Img w F a0 n0 c0 a1 n1 c1 a2 n2 c2 x) (hF : ∀ k, F k → k < w.heap.size) (hchk : chkF x = none) (hp1 : 1 ≤ p) (hp2 : p ≤ n0) (hf : rfitB (x.parts.getD (p - 1) dPn) = true) (hl : lcmB (zR (hyp (svs x.parts)) (x.parts.getD (p - 1) dPn).procs) ((x.parts.getD (p - 1) dPn).procs.length + 1) 1048576 = true) :
    ∃ m : Nat, 1 ≤ m ∧ m ≤ 1048576 ∧ hyp (svs x.parts) ∣ m ∧ (∀ j, j < (x.parts.getD (p - 1) dPn).procs.length → ((x.parts.getD (p - 1) dPn).procs.getD j dPrc).pe.toNat ∣ m) ∧ hasT (x.parts.getD (p - 1) dPn).procs ∧
    Calls Tryz.prog 6 #[.agg #[.slice a0 n0 c0, .slice a1 n1 c1, .slice a2 n2 c2], .int .i64 (p : Int)] w fun e w' => ∃ g s d f W w2, Pyd (occB (Rule.occ (sys (svs x.parts))) p) (2 * m) (x.parts.getD (p - 1) dPn).procs.length (x.parts.getD (p - 1) dPn).procs W w2 g s d f ∧ e = .returned (.tuple #[.bool (itB (wsF d f s) (x.parts.getD (p - 1) dPn).procs (x.parts.getD (p - 1) dPn).procs.length), .int .i64 0]) ∧ Kept No w w' := by
  obtain ⟨K0, _⟩ := imb w (.slice a0 n0 c0) (.slice a1 n1 c1) (.slice a2 n2 c2)
  obtain ⟨m, m1, m2, m3, m4, m5, hw⟩ := worst_any p _ (hg.kept K0) (ops_kept hO K0 (fun h => h)) (h.kept K0 (fun _ _ h => h)) (fun k hk => by have := hF k hk; have := K0.size; omega) hchk hp1 hp2 hf hl
  have hlen := h.ps.len
  have hnp := chk_np hchk (i := p - 1) (by omega)
  refine ⟨m, m1, m2, m3, m4, m5, ?_⟩
  refine (inTime_yes (.slice a1 n1 c1) (.slice a2 n2 c2) x.parts w h.ps p _ hp1 hp2 rfl (by omega) (fun v => ∃ g s d f W w2, Pyd (occB (Rule.occ (sys (svs x.parts))) p) (2 * m) (x.parts.getD (p - 1) dPn).procs.length (x.parts.getD (p - 1) dPn).procs W w2 g s d f ∧ v = wsF d f s) (hw.mono ?_)).mono ?_
  · rintro e w' ⟨gl, g, s, d, f, W, w2, rfl, hp, hn, hge, hk⟩
    exact ⟨gl, wsF d f s, rfl, ⟨g, s, d, f, W, w2, hp, rfl⟩, hn, hk⟩
  · rintro e w' ⟨v, ⟨g, s, d, f, W, w2, hp, rfl⟩, rfl, hk⟩
    exact ⟨g, s, d, f, W, w2, hp, rfl, hk⟩
/-- the process with another capacity -/
def caPr (z : Prc) (c : Int) : Prc := ⟨z.en, z.pr, z.pe, z.li, c, z.auto⟩
def caIm (x : Im) (q j : Nat) (c : Int) : Im := ⟨x.parts.set q (setPr (x.parts.getD q dPn) j (caPr ((x.parts.getD q dPn).procs.getD j dPrc) c)), x.ports, x.chans⟩
theorem caIm_parts {x : Im} {q j : Nat} {c : Int} (hq : q < x.parts.length) : (caIm x q j c).parts.getD q dPn = setPr (x.parts.getD q dPn) j (caPr ((x.parts.getD q dPn).procs.getD j dPrc) c) := by
  unfold caIm
  simp [List.getD, hq]
theorem caIm_svs {x : Im} {q j : Nat} {c : Int} : svs (caIm x q j c).parts = svs x.parts := by
  unfold svs caIm
  simp only
  rw [List.map_set]
  by_cases hq : q < x.parts.length
  · have : pnSv (setPr (x.parts.getD q dPn) j (caPr ((x.parts.getD q dPn).procs.getD j dPrc) c)) = (x.parts.map pnSv)[q]'(by simpa using hq) := by
      simp [pnSv, setPr, List.getD, hq]
    rw [this, List.set_getElem_self]
  · rw [List.set_eq_of_length_le (by simp; omega)]
theorem caIm_len {x : Im} {q j : Nat} {c : Int} : (caIm x q j c).parts.length = x.parts.length := by unfold caIm; simp
theorem itB_congr {f g : Nat → Int} {xs : List Prc} : ∀ n, (∀ i, i < n → f i = g i) → itB f xs n = itB g xs n
  | 0, _ => rfl
  | n + 1, h => by rw [itB, itB, itB_congr n (fun i hi => h i (by omega)), h n (by omega)]
end Go.Proofs.YtknobeiggmghoaaGreatDoor

namespace Go.Proofs.YtknobeiggmghoaaGreatDoor
open Go.RowKit Plain
set_option linter.unusedVariables false
set_option linter.unusedSimpArgs false
set_option maxRecDepth 100000

theorem hn_mono {w W : World} (k : Kept No w W) : ∀ g, Hn w g → Hn W g := fun g h => Nat.lt_of_lt_of_le h k.size
theorem img_hn {w W : World} {a0 a1 a2 : Option Addr} {n0 c0 n1 c1 n2 c2 : Nat} {x : Im} (h : Img w (Hn w) a0 n0 c0 a1 n1 c1 a2 n2 c2 x) (k : Kept No w W) : Img W (Hn W) a0 n0 c0 a1 n1 c1 a2 n2 c2 x := by
  have h2 := h.kept k (fun _ _ h => h)
  exact ⟨h2.ps.mono (hn_mono k) (mPn _ _ _ (hn_mono k)), h2.qs.mono (hn_mono k) (fun _ _ h => h), h2.cs.mono (hn_mono k) (mCh _ _ _ (hn_mono k))⟩

set_option maxHeartbeats 16000000 in
theorem grows_err {a0 a1 a2 : Option Addr} {n0 c0 n1 c1 n2 c2 : Nat} {x : Im} (w : World) (hg : Gl w) (hO : Lg.Ops w) (h : Img w (Hn w) a0 n0 c0 a1 n1 c1 a2 n2 c2 x) (hS : szIm x) (p which more : Int) (he : woE x p ≠ 0) :
    Calls Tryz.prog 3 #[.agg #[.slice a0 n0 c0, .slice a1 n1 c1, .slice a2 n2 c2], .int .i64 p, .int .i64 which, .int .i64 more] w fun e w' => e = .returned (.bool true) ∧ Kept No w w' := by
  obtain ⟨K0, HM0⟩ := imb w (.slice a0 n0 c0) (.slice a1 n1 c1) (.slice a2 n2 c2)
  obtain ⟨m0, m1, m2, _⟩ := HM0 _ (Kept.refl _ _)
  have HM : Hid (∀ W, Kept No (w.alloc (.cells #[.slice a0 n0 c0, .slice a1 n1 c1, .slice a2 n2 c2] 26)) W → W.cell? ⟨w.heap.size, 0, none⟩ = some (.slice a0 n0 c0) ∧ W.cell? ⟨w.heap.size, 1, none⟩ = some (.slice a1 n1 c1) ∧ W.cell? ⟨w.heap.size, 2, none⟩ = some (.slice a2 n2 c2) ∧ Kept No w W) := HM0
  have HK0 : Hid (Kept No w (w.alloc (.cells #[.slice a0 n0 c0, .slice a1 n1 c1, .slice a2 n2 c2] 26))) := K0
  have cC := copy_apart a0 n0 c0 a1 n1 c1 a2 n2 c2 x _ (img_hn h K0) hS
  have HG : Hid (Gl w ∧ Lg.Ops w) := ⟨hg, hO⟩
  have HIw : Hid (Img w (Hn w) a0 n0 c0 a1 n1 c1 a2 n2 c2 x ∧ szIm x) := ⟨h, hS⟩
  have HE : Hid (woE x p ≠ 0) := he
  have hz : ¬ woE x p = 0 := he
  clear h hS hg hO HM0 K0 he
  obtain ⟨er, her⟩ : ∃ er, er = woE x p := ⟨_, rfl⟩
  have HER : Hid (er = woE x p) := her
  rw [← her] at hz
  clear her
  go_enter Tryz.func3, Tryz.ntmps3
  go_upto_region 2 with (first
    | (go_at_call 5; refine cC.mono ?_; rintro e w1 ⟨b0, m0', d0, b1, m1', d1, b2, m2', d2, lo, T, rfl, hlo, hI, k1⟩; have HI : Hid (ImP w1 lo T w1.heap.size b0 m0' d0 b1 m1' d1 b2 m2' d2 x) := hI; have K1 : Hid (Kept No w w1) := HK0.out.trans k1 (fun _ h => h.elim); have KB1 : Hid (Kept No (w.alloc _) w1) := k1; clear hlo hI k1)
    | (go_at_call 4; refine (worst_err p _ (HG.out.1.kept K1.out) (ops_of HG.out.2 K1.out) HI.out.img HE.out).mono ?_; rintro e w2 ⟨rfl, k2⟩; rw [← HER.out]; have K2 : Hid (Kept No w w2) := K1.out.trans k2 (fun _ h => h.elim); have KB2 : Hid (Kept No (w.alloc _) w2) := KB1.out.trans k2 (fun _ h => h.elim); clear k2))
  clear cC HI m0 m1 m2
  obtain ⟨m0, m1, m2, _⟩ := HM.out w2 KB2.out
  have cC := copy_apart _ _ _ _ _ _ _ _ _ x w2 (img_hn HIw.out.1 K2.out) HIw.out.2
  go_upto_region 3 with (first
    | (go_at_call 5; refine cC.mono ?_; rintro e w3 ⟨b0, m0', d0, b1, m1', d1, b2, m2', d2, lo, T, rfl, hlo, hI, k1⟩; have HI : Hid (ImP w3 lo T w3.heap.size b0 m0' d0 b1 m1' d1 b2 m2' d2 x) := hI; have K3 : Hid (Kept No w w3) := K2.out.trans k1 (fun _ h => h.elim); clear hlo hI k1)
    | (go_at_call 6; refine (inTime_e p _ (HG.out.1.kept K3.out) (ops_of HG.out.2 K3.out) HI.out.img HE.out).mono ?_; rintro e w4 ⟨rfl, k2⟩; rw [← HER.out]; have K4 : Hid (Kept No w w4) := K3.out.trans k2 (fun _ h => h.elim); clear k2))
  clear cC HI m0 m1 m2
  go_wp2_with (go_at_call 7; refine (known_yes _ (HG.out.1.kept K4.out) (ops_of HG.out.2 K4.out)).mono ?_; rintro e w5 ⟨rfl, k3⟩; have K5 : Hid (Kept No w w5) := K4.out.trans k3 (fun _ h => h.elim); clear k3)
  go_ret
  exact ⟨rfl, K5.out⟩

set_option maxHeartbeats 16000000 in
theorem grows_out {a0 a1 a2 : Option Addr} {n0 c0 n1 c1 n2 c2 : Nat} {x : Im} (w : World) (hg : Gl w) (hO : Lg.Ops w) (h : Img w (Hn w) a0 n0 c0 a1 n1 c1 a2 n2 c2 x) (hS : szIm x) (p which more : Int) (he : woE x p = 0) (hb : which < 0 ∨ ((x.parts.getD (p.toNat - 1) dPn).procs.length : Int) ≤ which ∨ more < 0 ∨ 1000 < more) :
    Calls Tryz.prog 3 #[.agg #[.slice a0 n0 c0, .slice a1 n1 c1, .slice a2 n2 c2], .int .i64 p, .int .i64 which, .int .i64 more] w fun e w' => e = .returned (.bool true) ∧ Kept No w w' := by
  obtain ⟨q, rfl, hq1, hq2, hc, hf, hl⟩ := woE_zero he
  obtain ⟨K0, HM0⟩ := imb w (.slice a0 n0 c0) (.slice a1 n1 c1) (.slice a2 n2 c2)
  have HK0 : Hid (Kept No w (w.alloc (.cells #[.slice a0 n0 c0, .slice a1 n1 c1, .slice a2 n2 c2] 26))) := K0
  have HM : Hid (∀ W, Kept No (w.alloc (.cells #[.slice a0 n0 c0, .slice a1 n1 c1, .slice a2 n2 c2] 26)) W → W.cell? ⟨w.heap.size, 0, none⟩ = some (.slice a0 n0 c0) ∧ W.cell? ⟨w.heap.size, 1, none⟩ = some (.slice a1 n1 c1) ∧ W.cell? ⟨w.heap.size, 2, none⟩ = some (.slice a2 n2 c2) ∧ Kept No w W) := HM0
  obtain ⟨m0, m1, m2, _⟩ := HM0 _ (Kept.refl _ _)
  have hlen := h.ps.len
  have cC := copy_apart a0 n0 c0 a1 n1 c1 a2 n2 c2 x _ (img_hn h K0) hS
  have HG : Hid (Gl w ∧ Lg.Ops w) := ⟨hg, hO⟩
  have HP : Hid (chkF x = none ∧ rfitB (x.parts.getD (q - 1) dPn) = true ∧ lcmB (zR (hyp (svs x.parts)) (x.parts.getD (q - 1) dPn).procs) ((x.parts.getD (q - 1) dPn).procs.length + 1) 1048576 = true) := ⟨hc, hf, hl⟩
  have HW : Hid (∀ (W : World) (F : Nat → Prop) (b0 : Option Addr) (d0 : Nat) (b1 : Option Addr) (m1 d1 : Nat) (b2 : Option Addr) (m2 d2 : Nat), Kept No w W → Img W F b0 n0 d0 b1 m1 d1 b2 m2 d2 x → (∀ k, F k → k < W.heap.size) → ∃ m : Nat, 1 ≤ m ∧ m ≤ 1048576 ∧ hyp (svs x.parts) ∣ m ∧ (∀ j, j < (x.parts.getD (q - 1) dPn).procs.length → ((x.parts.getD (q - 1) dPn).procs.getD j dPrc).pe.toNat ∣ m) ∧ hasT (x.parts.getD (q - 1) dPn).procs ∧
    Calls Tryz.prog 4 #[.agg #[.slice b0 n0 d0, .slice b1 m1 d1, .slice b2 m2 d2], .int .i64 (q : Int)] W fun e w' => ∃ gl g s d f W' w2, e = .returned (.tuple #[.slice (some ⟨gl, 0, none⟩) (x.parts.getD (q - 1) dPn).procs.length (x.parts.getD (q - 1) dPn).procs.length, .int .i64 0]) ∧ Pyd (occB (Rule.occ (sys (svs x.parts))) q) (2 * m) (x.parts.getD (q - 1) dPn).procs.length (x.parts.getD (q - 1) dPn).procs W' w2 g s d f ∧ Nm w' gl (x.parts.getD (q - 1) dPn).procs.length (wsF d f s) ∧ W.heap.size ≤ gl ∧ Kept No W w') := fun W F b0 d0 b1 m1 d1 b2 m2 d2 k hI hF => worst_any q W (hg.kept k) (ops_of hO k) hI hF hc hq1 (by omega) hf hl
  have hnp := chk_np hc (i := q - 1) (by omega)
  rw [Int.toNat_natCast] at hb
  have HIw : Hid (Img w (Hn w) a0 n0 c0 a1 n1 c1 a2 n2 c2 x ∧ szIm x) := ⟨h, hS⟩
  have key2 : Hid (∀ (W : World) (F : Nat → Prop) (b0 : Option Addr) (d0 : Nat) (b1 : Option Addr) (m1 d1 : Nat) (b2 : Option Addr) (m2 d2 : Nat), Kept No w W → Img W F b0 n0 d0 b1 m1 d1 b2 m2 d2 x → (∀ k, F k → k < W.heap.size) → Calls Tryz.prog 6 #[.agg #[.slice b0 n0 d0, .slice b1 m1 d1, .slice b2 m2 d2], .int .i64 (q : Int)] W fun e w' => ∃ B, e = .returned (.tuple #[.bool B, .int .i64 0]) ∧ Kept No W w') := fun W F b0 d0 b1 m1 d1 b2 m2 d2 k hI hF => by
    obtain ⟨m, _, _, _, _, _, hw⟩ := inTime_z q W (hg.kept k) (ops_of hO k) hI hF hc hq1 (by omega) hf hl
    exact hw.mono fun e w' ⟨g, s, d, f, W', w2, _, e1, k2⟩ => ⟨_, e1, k2⟩
  clear h hS hg hO HM0 K0 he hc hf hl
  obtain ⟨n, hn⟩ : ∃ n, n = (x.parts.getD (q - 1) dPn).procs.length := ⟨_, rfl⟩
  rw [← hn] at hb hnp HW
  have hcase : which < 0 ∨ (¬ which < 0 ∧ (n : Int) ≤ which) ∨ (¬ which < 0 ∧ ¬ (n : Int) ≤ which ∧ more < 0) ∨ (¬ which < 0 ∧ ¬ (n : Int) ≤ which ∧ ¬ more < 0 ∧ 1000 < more) := by omega
  clear hb hn
  have key : Hid (∀ (W : World) (F : Nat → Prop) (b0 : Option Addr) (d0 : Nat) (b1 : Option Addr) (m1 d1 : Nat) (b2 : Option Addr) (m2 d2 : Nat), Kept No w W → Img W F b0 n0 d0 b1 m1 d1 b2 m2 d2 x → (∀ k, F k → k < W.heap.size) → Calls Tryz.prog 4 #[.agg #[.slice b0 n0 d0, .slice b1 m1 d1, .slice b2 m2 d2], .int .i64 (q : Int)] W fun e w' => ∃ gl, e = .returned (.tuple #[.slice (some ⟨gl, 0, none⟩) n n, .int .i64 0]) ∧ Kept No W w') := fun W F b0 d0 b1 m1 d1 b2 m2 d2 k hI hF => by
    obtain ⟨m, _, _, _, _, _, hw⟩ := HW.out W F b0 d0 b1 m1 d1 b2 m2 d2 k hI hF
    exact hw.mono fun e w' ⟨gl, g, s, d, f, W', w2, e1, _, _, _, k2⟩ => ⟨gl, e1, k2⟩
  clear HW
  have HLN : Hid (x.parts.length = n0) := hlen
  clear hlen
  rcases hcase with hb | ⟨hb1, hb2⟩ | ⟨hb1, hb2, hb3⟩ | ⟨hb1, hb2, hb3, hb4⟩
  all_goals
    go_enter Tryz.func3, Tryz.ntmps3
    go_upto_region 2 with (first
      | (go_at_call 5; refine cC.mono ?_; rintro e w1 ⟨b0, m0', d0, b1, m1', d1, b2, m2', d2, lo, T, rfl, hlo, hI, k1⟩; have hm0 := hI.ps.len.symm.trans HLN.out; subst hm0; have HI : Hid (ImP w1 lo T w1.heap.size b0 m0' d0 b1 m1' d1 b2 m2' d2 x) := hI; have K1 : Hid (Kept No w w1) := HK0.out.trans k1 (fun _ h => h.elim); have KB1 : Hid (Kept No (w.alloc _) w1) := k1; clear hlo hI k1)
      | (go_at_call 4; refine (key.out _ _ _ _ _ _ _ _ _ _ K1.out HI.out.img (fun k hk => hk.2)).mono ?_; rintro e w2 ⟨gl, rfl, k2⟩; have K2 : Hid (Kept No w w2) := K1.out.trans k2 (fun _ h => h.elim); have KB2 : Hid (Kept No (w.alloc _) w2) := KB1.out.trans k2 (fun _ h => h.elim); clear k2))
    clear cC HI m0 m1 m2
    obtain ⟨m0, m1, m2, _⟩ := HM.out w2 KB2.out
    have cC := copy_apart _ _ _ _ _ _ _ _ _ x w2 (img_hn HIw.out.1 K2.out) HIw.out.2
    go_upto_region 3 with (first
      | (go_at_call 5; refine cC.mono ?_; rintro e w3 ⟨b0', m0'', d0', b1', m1'', d1', b2', m2'', d2', lo, T, rfl, hlo, hI, k1⟩; have hm0 := hI.ps.len.symm.trans HLN.out; subst hm0; have HI : Hid (ImP w3 lo T w3.heap.size b0' m0'' d0' b1' m1'' d1' b2' m2'' d2' x) := hI; have K3 : Hid (Kept No w w3) := K2.out.trans k1 (fun _ h => h.elim); clear hlo hI k1)
      | (go_at_call 6; refine (key2.out _ _ _ _ _ _ _ _ _ _ K3.out HI.out.img (fun k hk => hk.2)).mono ?_; rintro e w4 ⟨B, rfl, k2⟩; have K4 : Hid (Kept No w w4) := K3.out.trans k2 (fun _ h => h.elim); clear k2))
    clear cC HI m0 m1 m2
    cases B
    all_goals
      go_wp2_with (go_at_call 7; refine (known_yes _ (HG.out.1.kept K4.out) (ops_of HG.out.2 K4.out)).mono ?_; rintro e w5 ⟨rfl, k3⟩; have K5 : Hid (Kept No w w5) := K4.out.trans k3 (fun _ h => h.elim); clear k3)
      go_ret
      exact ⟨rfl, K5.out⟩
end Go.Proofs.YtknobeiggmghoaaGreatDoor
