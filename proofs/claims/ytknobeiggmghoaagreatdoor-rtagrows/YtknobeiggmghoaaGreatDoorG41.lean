/-
  One text: RAg, RCmp, RAbv, YWo.
-/
import Derived.Test.YtknobeiggmghoaaGreatDoorG40
namespace Go.Proofs.YtknobeiggmghoaaGreatDoor
open Go.RowKit Plain
set_option linter.unusedVariables false
set_option maxRecDepth 100000

theorem lv_again {o : Nat → Bool} {T C : Nat → Nat} {M : Nat} (ho : Rp.again o M) (hM : 0 < M) : ∀ j, (∀ i, i < j → M % T i = 0) → Rp.again (lv o T C j) M
  | 0, _ => ho
  | j + 1, h => Rp.nxt_again (lv_again ho hM j (fun i hi => h i (by omega))) hM (h j (by omega))
theorem occ_again {xs : List Srv} (ht : timF xs xs.length = none) (p : Nat) {M : Nat} (hM : hyp xs ∣ M) (h1 : 1 ≤ M) : Rp.again (occB (Rule.occ (sys xs)) p) M := fun t htM => by
  have hv := vd_of ht
  obtain ⟨k, rfl⟩ := hM
  have hk : hyp xs ≤ hyp xs * k := by
    rcases Nat.eq_zero_or_pos k with e | e
    · subst e; omega
    · exact Nat.le_mul_of_pos_right _ e
  have := Rule.again_mul hv.bd.ok (H := hyp xs) (fun i hi => hv.dvd i hi) t (by omega) k
  unfold occB
  rw [Nat.mul_comm, this]
/-- a level's answer is the same at the ends of two multiples -/
theorem told_same {A : Nat → Bool} {c T M M' : Nat} (h : Rp.again A M) (h' : Rp.again A M') (hM : 0 < M) (hM' : 0 < M') (hT : M % T = 0) (hT' : M' % T = 0) :
    (Rp.okE A (fun _ => c) T (2 * M) ↔ Rp.okE A (fun _ => c) T (2 * M')) ∧ Rp.wrst A (fun _ => c) T (2 * M) = Rp.wrst A (fun _ => c) T (2 * M') := by
  refine ⟨⟨fun ho => Rp.okE_again h hM hT ho _, fun ho => Rp.okE_again h' hM' hT' ho _⟩, ?_⟩
  have h1 : 2 * M ≤ 2 * (M * M') := Nat.mul_le_mul_left 2 (Nat.le_mul_of_pos_right M hM')
  have h2 : 2 * M' ≤ 2 * (M * M') := Nat.mul_le_mul_left 2 (Nat.le_mul_of_pos_left M' hM)
  rw [← Rp.wrst_again h hM hT (2 * (M * M')) h1, ← Rp.wrst_again h' hM' hT' (2 * (M * M')) h2]
end Go.Proofs.YtknobeiggmghoaaGreatDoor

namespace Go.Proofs.YtknobeiggmghoaaGreatDoor
open Go.RowKit Plain
set_option linter.unusedVariables false
set_option maxRecDepth 100000

theorem sorted_eq {α : Type} {R : α → α → Prop} (hasy : ∀ x y, R x y → R y x → False) : ∀ (A B : List α), A.Perm B → A.Pairwise R → B.Pairwise R → A = B
  | [], B, h, _, _ => by have := h.length_eq; cases B with
    | nil => rfl
    | cons b B => simp at this
  | a :: A, [], h, _, _ => by have := h.length_eq; simp at this
  | a :: A, b :: B, h, hA, hB => by
    have e : a = b := by
      apply Classical.byContradiction
      intro hne
      have h1 : a ∈ B := by
        rcases List.mem_cons.1 (h.mem_iff.1 (List.mem_cons_self)) with e | e
        · exact absurd e hne
        · exact e
      have h2 : b ∈ A := by
        rcases List.mem_cons.1 (h.mem_iff.2 (List.mem_cons_self)) with e | e
        · exact absurd e.symm hne
        · exact e
      exact hasy _ _ ((List.pairwise_cons.1 hA).1 _ h2) ((List.pairwise_cons.1 hB).1 _ h1)
    subst e
    rw [sorted_eq hasy A B (h.cons_inv) (List.pairwise_cons.1 hA).2 (List.pairwise_cons.1 hB).2]
def prs (xs : List Prc) (i : Nat) : Int := (xs.getD i dPrc).pr
theorem places_perm {xs : List Prc} {d : Array Wr} (hp : d.toList.Perm (line0 xs)) : (d.toList.map (·.pl)).Perm (List.range xs.length) := by
  have := hp.map (·.pl)
  refine this.trans ?_
  unfold line0
  rw [List.map_map]
  have e : (Wr.pl ∘ fun i => wrk (xs.getD i dPrc) i) = id := rfl
  rw [e, List.map_id]
theorem place_at {xs : List Prc} {d : Array Wr} (hp : d.toList.Perm (line0 xs)) {x : Wr} (hx : x ∈ d.toList) : x.pl < xs.length ∧ x = wrk (xs.getD x.pl dPrc) x.pl := by
  have hm := hp.mem_iff.1 hx
  unfold line0 at hm
  rw [List.mem_map] at hm
  obtain ⟨j, hj, e⟩ := hm
  subst e
  exact ⟨List.mem_range.1 hj, rfl⟩
theorem places_sorted {xs : List Prc} {d : Array Wr} (hp : d.toList.Perm (line0 xs)) (hs : d.toList.Pairwise (fun x y => y.pr ≤ x.pr)) (hinj : ∀ i j, i < xs.length → j < xs.length → prs xs i = prs xs j → i = j) : (d.toList.map (·.pl)).Pairwise (fun i j => prs xs j < prs xs i) := by
  have hnd : (d.toList.map (·.pl)).Pairwise (fun i j => i ≠ j) := ((places_perm hp).pairwise_iff (fun {a b} h => Ne.symm h)).2 (List.Pairwise.imp (fun h => by omega) List.pairwise_lt_range)
  rw [List.pairwise_map] at hnd ⊢
  refine List.Pairwise.imp_of_mem ?_ (hs.and hnd)
  intro x y hx hy h
  obtain ⟨h1, h2⟩ := h
  obtain ⟨lx, ex⟩ := place_at hp hx
  obtain ⟨ly, ey⟩ := place_at hp hy
  have ax : x.pr = prs xs x.pl := by rw [ex]; rfl
  have ay : y.pr = prs xs y.pl := by rw [ey]; rfl
  rw [ax, ay] at h1
  rcases Int.lt_or_eq_of_le h1 with h3 | h3
  · exact h3
  · exact absurd (hinj _ _ lx ly h3.symm) h2
theorem places_eq {xs ys : List Prc} {d d' : Array Wr} (hl : ys.length = xs.length) (hpr : ∀ i, prs ys i = prs xs i) (hinj : ∀ i j, i < xs.length → j < xs.length → prs xs i = prs xs j → i = j)
    (hp : d.toList.Perm (line0 xs)) (hs : d.toList.Pairwise (fun x y => y.pr ≤ x.pr)) (hp' : d'.toList.Perm (line0 ys)) (hs' : d'.toList.Pairwise (fun x y => y.pr ≤ x.pr)) : d.toList.map (·.pl) = d'.toList.map (·.pl) := by
  have h1 := places_sorted hp hs hinj
  have h2 := places_sorted hp' hs' (fun i j hi hj e => hinj i j (by omega) (by omega) (by rw [← hpr, ← hpr]; exact e))
  refine sorted_eq (R := fun i j => prs xs j < prs xs i) (fun x y a b => by omega) _ _ ?_ h1 (List.Pairwise.imp (fun {a b} h => by rw [hpr, hpr] at h; exact h) h2)
  have p1 := places_perm hp
  have p2 := places_perm hp'
  rw [hl] at p2
  exact p1.trans p2.symm
theorem jobs_inj {xs : List Prc} (h : hjB xs xs.length = true) : ∀ i j, i < xs.length → j < xs.length → prs xs i = prs xs j → i = j := by
  have key : ∀ i j, i < j → j < xs.length → prs xs i ≠ prs xs j := by
    intro i j hij hj e
    obtain ⟨_, h2⟩ := jobs_ok _ h j hj
    rw [List.any_eq_false] at h2
    have hm : xs.getD i dPrc ∈ xs.take j := by
      rw [List.mem_take_iff_getElem]
      refine ⟨i, by omega, ?_⟩
      rw [List.getD, List.getElem?_eq_getElem (by omega)]; rfl
    exact h2 _ hm (by simpa [prs] using e)
  intro i j hi hj e
  rcases Nat.lt_trichotomy i j with h1 | h1 | h1
  · exact absurd e (key i j h1 hj)
  · exact h1
  · exact absurd e.symm (key j i h1 hi)
end Go.Proofs.YtknobeiggmghoaaGreatDoor

namespace Go.Proofs.YtknobeiggmghoaaGreatDoor
open Go.RowKit Plain
set_option linter.unusedVariables false
set_option maxRecDepth 100000

theorem lv_congr {o : Nat → Bool} {T C T' C' : Nat → Nat} : ∀ j, (∀ i, i < j → T i = T' i ∧ C i = C' i) → lv o T C j = lv o T' C' j
  | 0, _ => rfl
  | j + 1, h => by
    show Rp.nxt (lv o T C j) (fun _ => C j) (T j) = Rp.nxt (lv o T' C' j) (fun _ => C' j) (T' j)
    rw [lv_congr j (fun i hi => h i (by omega)), (h j (by omega)).1, (h j (by omega)).2]
theorem wsF_at {d : Array Wr} {f : Nat → Wr} {n : Nat} (hi : ∀ a b, a < n → b < n → (f a).pl = (f b).pl → a = b) {k : Nat} (hk : k < n) : ∀ s, s ≤ n → wsF d f s (f k).pl = if k < s then ((f k).k.worst : Int) else -1
  | 0, _ => by rw [if_neg (by omega)]; rfl
  | s + 1, hs => by
    show (if (f k).pl = (f s).pl then ((f s).k.worst : Int) else wsF d f s (f k).pl) = _
    by_cases e : k = s
    · subst e; rw [if_pos rfl, if_pos (by omega)]
    · rw [if_neg (fun h => e (hi k s hk (by omega) h)), wsF_at hi hk s (by omega)]
      by_cases h2 : k < s
      · rw [if_pos h2, if_pos (by omega)]
      · rw [if_neg h2, if_neg (by omega)]
theorem pl_get {xs : List Prc} {d : Array Wr} {k : Nat} (hk : k < d.size) : (d.toList.map (·.pl))[k]? = some (d[k]!).pl := by
  rw [List.getElem?_map, Array.getElem?_toList, Array.getElem?_eq_getElem hk, getElem!_pos d k hk]; rfl
theorem td_at {xs : List Prc} {d : Array Wr} (hp : d.toList.Perm (line0 xs)) {k : Nat} (hk : k < d.size) : Td d k = (xs.getD (d[k]!).pl dPrc).pe.toNat ∧ Cd d k = (xs.getD (d[k]!).pl dPrc).ca.toNat := by
  have hm : d[k]! ∈ d.toList := by rw [getElem!_pos d k hk]; simp
  obtain ⟨_, e⟩ := place_at hp hm
  unfold Td Cd
  constructor
  · exact congrArg (fun x : Wr => x.k.T) e
  · exact congrArg (fun x : Wr => x.k.C) e
theorem pyd_at {o : Nat → Bool} {E n g s : Nat} {xs : List Prc} {w w' : World} {d : Array Wr} {f : Nat → Wr} (h : Pyd o E n xs w w' g s d f) (j : Nat) : (f j).pl = (d[j]!).pl := by
  obtain ⟨k, e⟩ := h.at' j
  rw [e]; rfl

theorem above_same {o : Nat → Bool} {m m' n g g' s s' which : Nat} {xs ys : List Prc} {w w2 u u2 : World} {d d' : Array Wr} {f f' : Nat → Wr} (hx : xs.length = n) (hy : ys.length = n) (hsame : ∀ a, a ≠ which → ys.getD a dPrc = xs.getD a dPrc) (hpr : ∀ i, prs ys i = prs xs i) (hj : hjB xs xs.length = true)
    (h : Pyd o (2 * m) n xs w w2 g s d f) (h' : Pyd o (2 * m') n ys u u2 g' s' d' f') (hm : 1 ≤ m) (hm' : 1 ≤ m') (ho : Rp.again o m) (ho' : Rp.again o m') (hT : ∀ j, j < n → (xs.getD j dPrc).pe.toNat ∣ m) (hT' : ∀ j, j < n → (ys.getD j dPrc).pe.toNat ∣ m')
    {i : Nat} (hi : i < n) (hwi : prs xs which < prs xs i) : wsF d f s i = wsF d' f' s' i := by
  have hinj := jobs_inj hj
  have hpl := places_eq (by omega) hpr hinj h.pm h.sr h'.pm h'.sr
  have hps := places_sorted h.pm h.sr hinj
  have hsz := h.sz
  have hsz' := h'.sz
  have epl : ∀ k, k < n → (d'[k]!).pl = (d[k]!).pl := fun k hk => by
    have a1 := pl_get (xs := xs) (d := d) (k := k) (by omega)
    have a2 := pl_get (xs := xs) (d := d') (k := k) (by omega)
    rw [hpl, a2] at a1
    injection a1
  have lo : ∀ a b, a < b → b < n → prs xs (d[b]!).pl < prs xs (d[a]!).pl := fun a b hab hb => by
    have h1 := List.pairwise_iff_getElem.1 hps a b (by simp; omega) (by simp; omega) hab
    have e1 := pl_get (xs := xs) (d := d) (k := a) (by omega)
    have e2 := pl_get (xs := xs) (d := d) (k := b) (by omega)
    rw [List.getElem?_eq_getElem (by simp; omega)] at e1 e2
    injection e1 with e1
    injection e2 with e2
    rw [e1, e2] at h1
    exact h1
  obtain ⟨k, hk, hki⟩ : ∃ k, k < n ∧ (d[k]!).pl = i := by
    have hm : i ∈ d.toList.map (·.pl) := (places_perm h.pm).mem_iff.2 (List.mem_range.2 (by omega))
    obtain ⟨k, hk, e⟩ := List.getElem_of_mem hm
    have hk2 : k < n := by simp at hk; omega
    refine ⟨k, hk2, ?_⟩
    have := pl_get (xs := xs) (d := d) (k := k) (by omega)
    rw [List.getElem?_eq_getElem hk, e] at this
    injection this with this
    exact this.symm
  have hne : ∀ j, j ≤ k → (d[j]!).pl ≠ which := fun j hj2 e => by
    rcases Nat.lt_or_eq_of_le hj2 with h1 | h1
    · have := lo j k h1 hk
      rw [hki, e] at this
      omega
    · subst h1
      rw [e] at hki
      subst hki
      omega
  have hTC : ∀ j, j ≤ k → Td d j = Td d' j ∧ Cd d j = Cd d' j := fun j hj2 => by
    obtain ⟨a1, a2⟩ := td_at h.pm (k := j) (by omega)
    obtain ⟨b1, b2⟩ := td_at h'.pm (k := j) (by omega)
    rw [a1, a2, b1, b2, epl j (by omega), hsame _ (hne j hj2)]
    exact ⟨rfl, rfl⟩
  have hdm : ∀ j, j ≤ k → m % Td d j = 0 ∧ m' % Td d j = 0 := fun j hj2 => by
    obtain ⟨a1, _⟩ := td_at h.pm (k := j) (by omega)
    obtain ⟨b1, _⟩ := td_at h'.pm (k := j) (by omega)
    have hl1 : (d[j]!).pl < n := by have := pyd_pl h (j := j) (by omega); rw [pyd_at h] at this; omega
    refine ⟨by rw [a1]; exact Nat.mod_eq_zero_of_dvd (hT _ hl1), ?_⟩
    rw [(hTC j hj2).1, b1, epl j (by omega)]
    exact Nat.mod_eq_zero_of_dvd (hT' _ hl1)
  have tell : ∀ j, j ≤ k → (Rp.okE (lv o (Td d) (Cd d) j) (fun _ => Cd d j) (Td d j) (2 * m) ↔ Rp.okE (lv o (Td d') (Cd d') j) (fun _ => Cd d' j) (Td d' j) (2 * m')) ∧ Rp.wrst (lv o (Td d) (Cd d) j) (fun _ => Cd d j) (Td d j) (2 * m) = Rp.wrst (lv o (Td d') (Cd d') j) (fun _ => Cd d' j) (Td d' j) (2 * m') := fun j hj2 => by
    have e := lv_congr (o := o) (T := Td d) (C := Cd d) (T' := Td d') (C' := Cd d') j (fun i hi => hTC i (by omega))
    rw [← e, ← (hTC j hj2).1, ← (hTC j hj2).2]
    exact told_same (lv_again ho hm j (fun i hi => (hdm i (by omega)).1)) (lv_again ho' hm' j (fun i hi => (hdm i (by omega)).2)) hm hm' (hdm j hj2).1 (hdm j hj2).2
  have inj1 : ∀ a b, a < n → b < n → (f a).pl = (f b).pl → a = b := fun a b ha hb e => by
    rw [pyd_at h, pyd_at h] at e
    rcases Nat.lt_trichotomy a b with h1 | h1 | h1
    · have := lo a b h1 hb; rw [e] at this; omega
    · exact h1
    · have := lo b a h1 ha; rw [e] at this; omega
  have inj2 : ∀ a b, a < n → b < n → (f' a).pl = (f' b).pl → a = b := fun a b ha hb e => by
    rw [pyd_at h', pyd_at h', epl a ha, epl b hb, ← pyd_at h, ← pyd_at h] at e
    exact inj1 a b ha hb e
  have v1 := wsF_at (d := d) inj1 hk s h.le
  have v2 := wsF_at (d := d') inj2 hk s' h'.le
  rw [pyd_at h, hki] at v1
  rw [pyd_at h', epl k hk, hki] at v2
  rw [v1, v2]
  by_cases hks : k < s
  · have hks' : k < s' := by
      apply Classical.byContradiction
      intro hn
      have hn2 : s' ≤ k := by omega
      exact h'.no (by omega) ((tell s' hn2).1.1 (h.yes s' (by omega)).1)
    rw [if_pos hks, if_pos hks', (h.yes k hks).2, (h'.yes k hks').2, (tell k (Nat.le_refl _)).2]
  · have hks' : ¬ k < s' := by
      intro hn
      have hn2 : s ≤ k := by omega
      exact h.no (by omega) ((tell s hn2).1.2 (h'.yes s (by omega)).1)
    rw [if_neg hks, if_neg hks']
end Go.Proofs.YtknobeiggmghoaaGreatDoor

namespace Go.Proofs.YtknobeiggmghoaaGreatDoor
open Go.RowKit Plain
set_option linter.unusedVariables false
set_option linter.unusedSimpArgs false
set_option maxRecDepth 100000

/-- the error of Worst -/
def woE (x : Im) (p : Int) : Int :=
  if fe (chkF x) ≠ 0 then fe (chkF x) else if p < 1 ∨ (x.parts.length : Int) < p then 220 else if rfitB (x.parts.getD (p.toNat - 1) dPn) = false then 250 else if lcmB (zR (hyp (svs x.parts)) (x.parts.getD (p.toNat - 1) dPn).procs) ((x.parts.getD (p.toNat - 1) dPn).procs.length + 1) 1048576 = false then 102 else 0
theorem woE_zero {x : Im} {p : Int} (h : woE x p = 0) : ∃ q : Nat, p = q ∧ 1 ≤ q ∧ q ≤ x.parts.length ∧ chkF x = none ∧ rfitB (x.parts.getD (q - 1) dPn) = true ∧ lcmB (zR (hyp (svs x.parts)) (x.parts.getD (q - 1) dPn).procs) ((x.parts.getD (q - 1) dPn).procs.length + 1) 1048576 = true := by
  unfold woE at h
  by_cases h1 : fe (chkF x) ≠ 0
  · rw [if_pos h1] at h; exact absurd h h1
  · rw [if_neg h1] at h
    by_cases h2 : p < 1 ∨ (x.parts.length : Int) < p
    · rw [if_pos h2] at h; omega
    · rw [if_neg h2] at h
      obtain ⟨q, rfl⟩ := Int.eq_ofNat_of_zero_le (show 0 ≤ p by omega)
      rw [Int.toNat_natCast] at h
      refine ⟨q, rfl, by omega, by omega, chk_none (by omega), ?_, ?_⟩
      · by_cases h3 : rfitB (x.parts.getD (q - 1) dPn) = false
        · rw [if_pos h3] at h; omega
        · simpa using h3
      · by_cases h3 : rfitB (x.parts.getD (q - 1) dPn) = false
        · rw [if_pos h3] at h; omega
        · rw [if_neg h3] at h
          by_cases h4 : lcmB (zR (hyp (svs x.parts)) (x.parts.getD (q - 1) dPn).procs) ((x.parts.getD (q - 1) dPn).procs.length + 1) 1048576 = false
          · rw [if_pos h4] at h; omega
          · simpa using h4
theorem worst_err {F : Nat → Prop} {a0 : Option Addr} {n0 c0 : Nat} {a1 : Option Addr} {n1 c1 : Nat} {a2 : Option Addr} {n2 c2 : Nat} {x : Im} (p : Int) (w : World) (hg : Gl w) (hO : Lg.Ops w) (h : Img w F a0 n0 c0 a1 n1 c1 a2 n2 c2 x) (he : woE x p ≠ 0) :
    Calls Tryz.prog 4 #[.agg #[.slice a0 n0 c0, .slice a1 n1 c1, .slice a2 n2 c2], .int .i64 p] w fun e w' => e = .returned (.tuple #[.slice none 0 0, .int .i64 (woE x p)]) ∧ Kept No w w' := by
  obtain ⟨K0, _⟩ := imb w (.slice a0 n0 c0) (.slice a1 n1 c1) (.slice a2 n2 c2)
  have hi := h.kept K0 (fun _ _ h => h)
  have hlen := h.ps.len
  suffices hc : Calls Tryz.prog 8 #[.agg #[.slice a0 n0 c0, .slice a1 n1 c1, .slice a2 n2 c2], .int .i64 p] (w.alloc (.cells #[.slice a0 n0 c0, .slice a1 n1 c1, .slice a2 n2 c2] 26)) fun e w' => e = .returned (.tuple #[.int .i64 0, .int .i64 (woE x p)]) ∧ Kept No (w.alloc (.cells #[.slice a0 n0 c0, .slice a1 n1 c1, .slice a2 n2 c2] 26)) w' from
    worst_no _ _ _ p 0 _ w he hc
  have hgk := hg.kept K0
  have hok := ops_kept hO K0 (fun h => h)
  unfold woE at he ⊢
  by_cases h1 : fe (chkF x) ≠ 0
  · rw [if_pos h1]
    exact mul_refused p _ hgk hi h1
  · have hz : fe (chkF x) = 0 := by omega
    rw [if_neg h1] at he ⊢
    by_cases h2 : p < 1 ∨ (x.parts.length : Int) < p
    · rw [if_pos h2]
      exact mul_out p _ hgk hi hz (by rw [hlen] at h2; exact h2)
    · rw [if_neg h2] at he ⊢
      obtain ⟨q, rfl⟩ := Int.eq_ofNat_of_zero_le (show 0 ≤ p by omega)
      rw [Int.toNat_natCast] at he ⊢
      by_cases h3 : rfitB (x.parts.getD (q - 1) dPn) = false
      · rw [if_pos h3]
        exact mul_unfit q _ hgk hok hi hz (by omega) (by omega) h3
      · rw [if_neg h3] at he ⊢
        by_cases h4 : lcmB (zR (hyp (svs x.parts)) (x.parts.getD (q - 1) dPn).procs) ((x.parts.getD (q - 1) dPn).procs.length + 1) 1048576 = false
        · rw [if_pos h4]
          have hn := chk_none hz
          have ht : timF (svs x.parts) n0 = none := by rw [← hlen]; exact chk_tim hn
          have hnp := chk_np hn (i := q - 1) (by omega)
          have := mul_yes q _ hgk hok hi hz (by omega) (by omega) (by simpa using h3) ht (by omega)
          unfold mulV at this
          rw [h4] at this
          exact this
        · rw [if_neg h4] at he; exact absurd rfl he
end Go.Proofs.YtknobeiggmghoaaGreatDoor
