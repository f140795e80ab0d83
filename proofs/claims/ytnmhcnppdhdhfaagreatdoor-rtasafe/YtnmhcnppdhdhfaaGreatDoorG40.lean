/-
  One text: VFi, RAbv, YWo, YBase.
-/
import Derived.Test.YtnmhcnppdhdhfaaGreatDoorG13
import Derived.Test.YtnmhcnppdhdhfaaGreatDoorG39
import Derived.Test.YtnmhcnppdhdhfaaGreatDoorG26
namespace Go.Proofs.YtnmhcnppdhdhfaaGreatDoor
open Go.RowKit
set_option linter.unusedVariables false
set_option linter.unusedSimpArgs false
set_option maxRecDepth 100000

theorem jproc {F : Nat → Prop} {a : Option Addr} {n c : Nat} {xs : List Prc} {w : World} (h : Ls 6 elPrc w F a n c xs) {i : Nat} (hi : i < n) : ∃ b o, a = some ⟨b, o, none⟩ ∧ F b ∧ okPrc (xs.getD i dPrc) ∧ w.cell? ⟨b, o + i * 6, none⟩ = some (.int .i64 (xs.getD i dPrc).en) ∧ w.cell? ⟨b, o + i * 6 + 1, none⟩ = some (.int .i64 (xs.getD i dPrc).pr) ∧ w.cell? ⟨b, o + i * 6 + 2, none⟩ = some (.int .i64 (xs.getD i dPrc).pe) ∧ w.cell? ⟨b, o + i * 6 + 3, none⟩ = some (.int .i64 (xs.getD i dPrc).li) ∧ w.cell? ⟨b, o + i * 6 + 4, none⟩ = some (.int .i64 (xs.getD i dPrc).ca) ∧ w.cell? ⟨b, o + i * 6 + 5, none⟩ = some (.bool (xs.getD i dPrc).auto) := by
  have hx : xs[i]? = some (xs.getD i dPrc) := by rw [List.getD, List.getElem?_eq_getElem (by rw [h.len]; exact hi)]; rfl
  obtain ⟨b, o, cs, e, hb, hl, hr, hE⟩ := h.at' i _ hx
  obtain ⟨rfl, hok⟩ := hE
  have r0 := hr 0 _ rfl
  rw [Nat.add_zero] at r0
  exact ⟨b, o, e, hb, hok, r0, hr 1 _ rfl, hr 2 _ rfl, hr 3 _ rfl, hr 4 _ rfl, hr 5 _ rfl⟩
/-- the best of the first i -/
def Bst (i : Nat) (pr : Nat → Int) (g : Nat → Jb) (r : Int) : Prop := (r = -1 ∧ ∀ j, j < i → (g j).lf ≤ 0) ∨ ∃ k : Nat, r = k ∧ Fst i pr g k
theorem Bst.skip {i : Nat} {pr : Nat → Int} {g : Nat → Jb} {r : Int} (h : Bst i pr g r) (hz : (g i).lf ≤ 0) : Bst (i + 1) pr g r := by
  rcases h with ⟨e, h⟩ | ⟨k, e, h⟩
  · refine .inl ⟨e, fun j hj => ?_⟩
    rcases Nat.lt_or_eq_of_le (Nat.lt_succ_iff.1 hj) with h1 | h1
    · exact h j h1
    · subst h1; exact hz
  · refine .inr ⟨k, e, by have := h.lt; omega, h.pos, fun j hj hp => ?_⟩
    rcases Nat.lt_or_eq_of_le (Nat.lt_succ_iff.1 hj) with h1 | h1
    · exact h.max j h1 hp
    · subst h1; omega
theorem Bst.here {i : Nat} {pr : Nat → Int} {g : Nat → Jb} {r : Int} (h : Bst i pr g r) (hp : 0 < (g i).lf) (hb : r < 0 ∨ ∃ k : Nat, r = k ∧ pr k < pr i) : Bst (i + 1) pr g i := by
  refine .inr ⟨i, rfl, Nat.lt_succ_self _, hp, fun j hj hp2 => ?_⟩
  rcases Nat.lt_or_eq_of_le (Nat.lt_succ_iff.1 hj) with h1 | h1
  · rcases h with ⟨e, h⟩ | ⟨k, e, h⟩
    · have := h j h1; omega
    · rcases hb with hb | ⟨k', e', hb⟩
      · omega
      · have : k' = k := by omega
        subst this
        have := h.max j h1 hp2
        omega
  · subst h1; exact Int.le_refl _
theorem Bst.stay {i : Nat} {pr : Nat → Int} {g : Nat → Jb} {k : Nat} (h : Bst i pr g k) (hb : pr i ≤ pr k) : Bst (i + 1) pr g k := by
  rcases h with ⟨e, h⟩ | ⟨k', e, h⟩
  · omega
  · have : k' = k := by omega
    subst this
    refine .inr ⟨k', rfl, by have := h.lt; omega, h.pos, fun j hj hp => ?_⟩
    rcases Nat.lt_or_eq_of_le (Nat.lt_succ_iff.1 hj) with h1 | h1
    · exact h.max j h1 hp
    · subst h1; exact hb
set_option maxHeartbeats 8000000 in
theorem first_any {F : Nat → Prop} {a : Option Addr} {n c : Nat} {xs : List Prc} (g : Nat) (f : Nat → Jb) (w : World) (hP : Ls 6 elPrc w F a n c xs) (hJ : Jm w g n f) (hn : n ≤ 70000) :
    Calls Tryz.prog 24 #[.slice a n c, .slice (some ⟨g, 0, none⟩) n n] w fun e w' => ∃ r : Int, e = .returned (.int .i64 r) ∧ Kept No w w' ∧ Bst n (prs xs) f r := by
  have HP : Hid (Ls 6 elPrc w F a n c xs) := hP
  have HJ : Hid (Jm w g n f) := hJ
  clear hP hJ
  go_enter Tryz.func24, Tryz.ntmps24
  go_wp2
  go_loopw [5, 6] (fun b i wr => ∃ (r : Int) (k : Nat), b = .int .i64 r ∧ i = .int .i64 k ∧ k ≤ n ∧ Kept No w wr ∧ Bst k (prs xs) f r) (fun _ i _ => n - (intOf i).toNat)
  case atStart => exact ⟨-1, 0, rfl, rfl, Nat.zero_le _, Kept.refl _ _, .inl ⟨rfl, fun j hj => absurd hj (Nat.not_lt_zero _)⟩⟩
  case round =>
    obtain ⟨r, k, rfl, rfl, hk, K, hB⟩ := hrel
    have HB := hid hB
    have HK := hid K
    by_cases hlt : k < n
    · have hkn : (k : Int) < (n : Int) := by omega
      obtain ⟨pb, po, rfl, _, _, _, p1, _⟩ := jproc (HP.out.kept K (fun _ _ h => h) (elPrc_kept K (fun _ _ h => h))) hlt
      have q1 := (HJ.out.kept K (fun h => h)).c1 hlt
      have hpr : Hid (prs xs k = (xs.getD k dPrc).pr) := rfl
      have HLT := hid hlt
      obtain ⟨z, hz⟩ : ∃ z, z = (f k).lf := ⟨_, rfl⟩
      obtain ⟨y, hy⟩ : ∃ y, y = (xs.getD k dPrc).pr := ⟨_, rfl⟩
      rw [← hz] at q1
      rw [← hy] at p1
      have HZ := hid hz
      have HY := hid hy
      clear hz hy hB K hlt
      by_cases hz0 : 0 < z
      · have gz : decide (0 < z) = true := by simpa using hz0
        by_cases hr : r < 0
        · have gr : decide (r < 0) = true := by simpa using hr
          have HN := hid (HB.out.here (by rw [← HZ.out]; exact hz0) (.inl hr))
          go_upto_region 5 with fail
          go_quiet (fail)
          go_wp2
          go_roundw
          case rel => exact ⟨k, k + 1, rfl, by go_num, HLT.out, HK.out.drewN _, HN.out⟩
          case measure => have := HLT.out; simp [intOf]; omega
        · have gr : decide (r < 0) = false := by simpa using hr
          obtain ⟨m, rfl⟩ := Int.eq_ofNat_of_zero_le (show 0 ≤ r by omega)
          have hmn : m < n := by
            rcases HB.out with ⟨e, _⟩ | ⟨k', e, h⟩
            · omega
            · have := h.lt; have := HLT.out; omega
          have hmn2 : (m : Int) < (n : Int) := by omega
          obtain ⟨pb2, po2, e2, _, _, _, p2, _⟩ := jproc (HP.out.kept HK.out (fun _ _ h => h) (elPrc_kept HK.out (fun _ _ h => h))) hmn
          injection e2 with e2
          injection e2 with e3 e4 _
          subst e3 e4
          obtain ⟨x, hx⟩ : ∃ x, x = (xs.getD m dPrc).pr := ⟨_, rfl⟩
          rw [← hx] at p2
          have HX := hid hx
          have HMN := hid hmn
          clear hx hmn
          by_cases hlt2 : x < y
          · have g2 : decide (x < y) = true := by simpa using hlt2
            have HN := hid (HB.out.here (by rw [← HZ.out]; exact hz0) (.inr ⟨m, rfl, by show (xs.getD m dPrc).pr < (xs.getD k dPrc).pr; rw [← HX.out, ← HY.out]; exact hlt2⟩))
            go_upto_region 5 with fail
            go_quiet (fail)
            go_wp2
            go_roundw
            case rel => exact ⟨k, k + 1, rfl, by go_num, HLT.out, HK.out.drewN _, HN.out⟩
            case measure => have := HLT.out; simp [intOf]; omega
          · have g2 : decide (x < y) = false := by simpa using hlt2
            have HN := hid (HB.out.stay (k := m) (by show (xs.getD k dPrc).pr ≤ (xs.getD m dPrc).pr; rw [← HX.out, ← HY.out]; omega))
            go_upto_region 5 with fail
            go_quiet (fail)
            go_wp2
            go_roundw
            case rel => exact ⟨m, k + 1, rfl, by go_num, HLT.out, HK.out.drewN _, HN.out⟩
            case measure => have := HLT.out; simp [intOf]; omega
      · have gz : decide (0 < z) = false := by simpa using hz0
        have HN := hid (HB.out.skip (by rw [← HZ.out]; omega))
        go_upto_region 5 with fail
        go_quiet (fail)
        go_wp2
        go_roundw
        case rel => exact ⟨r, k + 1, rfl, by go_num, HLT.out, HK.out.drewN _, HN.out⟩
        case measure => have := HLT.out; simp [intOf]; omega
    · have hkn : k = n := by omega
      subst hkn
      clear hB K hlt
      go_wp2
      go_ret
      exact ⟨r, rfl, HK.out, HB.out⟩
end Go.Proofs.YtnmhcnppdhdhfaaGreatDoor

namespace Go.Proofs.YtnmhcnppdhdhfaaGreatDoor
open Go.RowKit Plain
set_option linter.unusedVariables false
set_option maxRecDepth 100000

theorem lv_congr {o : Nat → Bool} {T C T' C' : Nat → Nat} : ∀ j, (∀ i, i < j → T i = T' i ∧ C i = C' i) → lv o T C j = lv o T' C' j
  | 0, _ => rfl
  | j + 1, h => by
    show Rp.nxt (lv o T C j) (fun _ => C j) (T j) = Rp.nxt (lv o T' C' j) (fun _ => C' j) (T' j)
    rw [lv_congr j (fun i hi => h i (by omega)), (h j (by omega)).1, (h j (by omega)).2]
theorem wsF_at {d : Array Wr} {f : Nat → Wr} {n : Nat} (hi : ∀ a b, a < n → b < n → (f a).pl = (f b).pl → a = b) {k : Nat} (hk : k < n) : ∀ s, s ≤ n → wsF d f s (f k).pl = if k < s then ((f k).k.worst : Int) else -1
  | 0, _ => by rw [if_neg (by omega)]; rfl
  | s + 1, hs => by
    show (if (f k).pl = (f s).pl then ((f s).k.worst : Int) else wsF d f s (f k).pl) = _
    by_cases e : k = s
    · subst e; rw [if_pos rfl, if_pos (by omega)]
    · rw [if_neg (fun h => e (hi k s hk (by omega) h)), wsF_at hi hk s (by omega)]
      by_cases h2 : k < s
      · rw [if_pos h2, if_pos (by omega)]
      · rw [if_neg h2, if_neg (by omega)]
theorem pl_get {xs : List Prc} {d : Array Wr} {k : Nat} (hk : k < d.size) : (d.toList.map (·.pl))[k]? = some (d[k]!).pl := by
  rw [List.getElem?_map, Array.getElem?_toList, Array.getElem?_eq_getElem hk, getElem!_pos d k hk]; rfl
theorem td_at {xs : List Prc} {d : Array Wr} (hp : d.toList.Perm (line0 xs)) {k : Nat} (hk : k < d.size) : Td d k = (xs.getD (d[k]!).pl dPrc).pe.toNat ∧ Cd d k = (xs.getD (d[k]!).pl dPrc).ca.toNat := by
  have hm : d[k]! ∈ d.toList := by rw [getElem!_pos d k hk]; simp
  obtain ⟨_, e⟩ := place_at hp hm
  unfold Td Cd
  constructor
  · exact congrArg (fun x : Wr => x.k.T) e
  · exact congrArg (fun x : Wr => x.k.C) e
theorem pyd_at {o : Nat → Bool} {E n g s : Nat} {xs : List Prc} {w w' : World} {d : Array Wr} {f : Nat → Wr} (h : Pyd o E n xs w w' g s d f) (j : Nat) : (f j).pl = (d[j]!).pl := by
  obtain ⟨k, e⟩ := h.at' j
  rw [e]; rfl

theorem above_same {o : Nat → Bool} {m m' n g g' s s' which : Nat} {xs ys : List Prc} {w w2 u u2 : World} {d d' : Array Wr} {f f' : Nat → Wr} (hx : xs.length = n) (hy : ys.length = n) (hsame : ∀ a, a ≠ which → ys.getD a dPrc = xs.getD a dPrc) (hpr : ∀ i, prs ys i = prs xs i) (hj : hjB xs xs.length = true)
    (h : Pyd o (2 * m) n xs w w2 g s d f) (h' : Pyd o (2 * m') n ys u u2 g' s' d' f') (hm : 1 ≤ m) (hm' : 1 ≤ m') (ho : Rp.again o m) (ho' : Rp.again o m') (hT : ∀ j, j < n → (xs.getD j dPrc).pe.toNat ∣ m) (hT' : ∀ j, j < n → (ys.getD j dPrc).pe.toNat ∣ m')
    {i : Nat} (hi : i < n) (hwi : prs xs which < prs xs i) : wsF d f s i = wsF d' f' s' i := by
  have hinj := jobs_inj hj
  have hpl := places_eq (by omega) hpr hinj h.pm h.sr h'.pm h'.sr
  have hps := places_sorted h.pm h.sr hinj
  have hsz := h.sz
  have hsz' := h'.sz
  have epl : ∀ k, k < n → (d'[k]!).pl = (d[k]!).pl := fun k hk => by
    have a1 := pl_get (xs := xs) (d := d) (k := k) (by omega)
    have a2 := pl_get (xs := xs) (d := d') (k := k) (by omega)
    rw [hpl, a2] at a1
    injection a1
  have lo : ∀ a b, a < b → b < n → prs xs (d[b]!).pl < prs xs (d[a]!).pl := fun a b hab hb => by
    have h1 := List.pairwise_iff_getElem.1 hps a b (by simp; omega) (by simp; omega) hab
    have e1 := pl_get (xs := xs) (d := d) (k := a) (by omega)
    have e2 := pl_get (xs := xs) (d := d) (k := b) (by omega)
    rw [List.getElem?_eq_getElem (by simp; omega)] at e1 e2
    injection e1 with e1
    injection e2 with e2
    rw [e1, e2] at h1
    exact h1
  obtain ⟨k, hk, hki⟩ : ∃ k, k < n ∧ (d[k]!).pl = i := by
    have hm : i ∈ d.toList.map (·.pl) := (places_perm h.pm).mem_iff.2 (List.mem_range.2 (by omega))
    obtain ⟨k, hk, e⟩ := List.getElem_of_mem hm
    have hk2 : k < n := by simp at hk; omega
    refine ⟨k, hk2, ?_⟩
    have := pl_get (xs := xs) (d := d) (k := k) (by omega)
    rw [List.getElem?_eq_getElem hk, e] at this
    injection this with this
    exact this.symm
  have hne : ∀ j, j ≤ k → (d[j]!).pl ≠ which := fun j hj2 e => by
    rcases Nat.lt_or_eq_of_le hj2 with h1 | h1
    · have := lo j k h1 hk
      rw [hki, e] at this
      omega
    · subst h1
      rw [e] at hki
      subst hki
      omega
  have hTC : ∀ j, j ≤ k → Td d j = Td d' j ∧ Cd d j = Cd d' j := fun j hj2 => by
    obtain ⟨a1, a2⟩ := td_at h.pm (k := j) (by omega)
    obtain ⟨b1, b2⟩ := td_at h'.pm (k := j) (by omega)
    rw [a1, a2, b1, b2, epl j (by omega), hsame _ (hne j hj2)]
    exact ⟨rfl, rfl⟩
  have hdm : ∀ j, j ≤ k → m % Td d j = 0 ∧ m' % Td d j = 0 := fun j hj2 => by
    obtain ⟨a1, _⟩ := td_at h.pm (k := j) (by omega)
    obtain ⟨b1, _⟩ := td_at h'.pm (k := j) (by omega)
    have hl1 : (d[j]!).pl < n := by have := pyd_pl h (j := j) (by omega); rw [pyd_at h] at this; omega
    refine ⟨by rw [a1]; exact Nat.mod_eq_zero_of_dvd (hT _ hl1), ?_⟩
    rw [(hTC j hj2).1, b1, epl j (by omega)]
    exact Nat.mod_eq_zero_of_dvd (hT' _ hl1)
  have tell : ∀ j, j ≤ k → (Rp.okE (lv o (Td d) (Cd d) j) (fun _ => Cd d j) (Td d j) (2 * m) ↔ Rp.okE (lv o (Td d') (Cd d') j) (fun _ => Cd d' j) (Td d' j) (2 * m')) ∧ Rp.wrst (lv o (Td d) (Cd d) j) (fun _ => Cd d j) (Td d j) (2 * m) = Rp.wrst (lv o (Td d') (Cd d') j) (fun _ => Cd d' j) (Td d' j) (2 * m') := fun j hj2 => by
    have e := lv_congr (o := o) (T := Td d) (C := Cd d) (T' := Td d') (C' := Cd d') j (fun i hi => hTC i (by omega))
    rw [← e, ← (hTC j hj2).1, ← (hTC j hj2).2]
    exact told_same (lv_again ho hm j (fun i hi => (hdm i (by omega)).1)) (lv_again ho' hm' j (fun i hi => (hdm i (by omega)).2)) hm hm' (hdm j hj2).1 (hdm j hj2).2
  have inj1 : ∀ a b, a < n → b < n → (f a).pl = (f b).pl → a = b := fun a b ha hb e => by
    rw [pyd_at h, pyd_at h] at e
    rcases Nat.lt_trichotomy a b with h1 | h1 | h1
    · have := lo a b h1 hb; rw [e] at this; omega
    · exact h1
    · have := lo b a h1 ha; rw [e] at this; omega
  have inj2 : ∀ a b, a < n → b < n → (f' a).pl = (f' b).pl → a = b := fun a b ha hb e => by
    rw [pyd_at h', pyd_at h', epl a ha, epl b hb, ← pyd_at h, ← pyd_at h] at e
    exact inj1 a b ha hb e
  have v1 := wsF_at (d := d) inj1 hk s h.le
  have v2 := wsF_at (d := d') inj2 hk s' h'.le
  rw [pyd_at h, hki] at v1
  rw [pyd_at h', epl k hk, hki] at v2
  rw [v1, v2]
  by_cases hks : k < s
  · have hks' : k < s' := by
      apply Classical.byContradiction
      intro hn
      have hn2 : s' ≤ k := by omega
      exact h'.no (by omega) ((tell s' hn2).1.1 (h.yes s' (by omega)).1)
    rw [if_pos hks, if_pos hks', (h.yes k hks).2, (h'.yes k hks').2, (tell k (Nat.le_refl _)).2]
  · have hks' : ¬ k < s' := by
      intro hn
      have hn2 : s ≤ k := by omega
      exact h.no (by omega) ((tell s hn2).1.2 (h'.yes s (by omega)).1)
    rw [if_neg hks, if_neg hks']
end Go.Proofs.YtnmhcnppdhdhfaaGreatDoor

namespace Go.Proofs.YtnmhcnppdhdhfaaGreatDoor
open Go.RowKit Plain
set_option linter.unusedVariables false
set_option linter.unusedSimpArgs false
set_option maxRecDepth 100000

/-- the error of Worst -/
def woE (x : Im) (p : Int) : Int :=
  if fe (chkF x) ≠ 0 then fe (chkF x) else if p < 1 ∨ (x.parts.length : Int) < p then 220 else if rfitB (x.parts.getD (p.toNat - 1) dPn) = false then 250 else if lcmB (zR (hyp (svs x.parts)) (x.parts.getD (p.toNat - 1) dPn).procs) ((x.parts.getD (p.toNat - 1) dPn).procs.length + 1) 1048576 = false then 102 else 0
theorem woE_zero {x : Im} {p : Int} (h : woE x p = 0) : ∃ q : Nat, p = q ∧ 1 ≤ q ∧ q ≤ x.parts.length ∧ chkF x = none ∧ rfitB (x.parts.getD (q - 1) dPn) = true ∧ lcmB (zR (hyp (svs x.parts)) (x.parts.getD (q - 1) dPn).procs) ((x.parts.getD (q - 1) dPn).procs.length + 1) 1048576 = true := by
  unfold woE at h
  by_cases h1 : fe (chkF x) ≠ 0
  · rw [if_pos h1] at h; exact absurd h h1
  · rw [if_neg h1] at h
    by_cases h2 : p < 1 ∨ (x.parts.length : Int) < p
    · rw [if_pos h2] at h; omega
    · rw [if_neg h2] at h
      obtain ⟨q, rfl⟩ := Int.eq_ofNat_of_zero_le (show 0 ≤ p by omega)
      rw [Int.toNat_natCast] at h
      refine ⟨q, rfl, by omega, by omega, chk_none (by omega), ?_, ?_⟩
      · by_cases h3 : rfitB (x.parts.getD (q - 1) dPn) = false
        · rw [if_pos h3] at h; omega
        · simpa using h3
      · by_cases h3 : rfitB (x.parts.getD (q - 1) dPn) = false
        · rw [if_pos h3] at h; omega
        · rw [if_neg h3] at h
          by_cases h4 : lcmB (zR (hyp (svs x.parts)) (x.parts.getD (q - 1) dPn).procs) ((x.parts.getD (q - 1) dPn).procs.length + 1) 1048576 = false
          · rw [if_pos h4] at h; omega
          · simpa using h4
theorem worst_err {F : Nat → Prop} {a0 : Option Addr} {n0 c0 : Nat} {a1 : Option Addr} {n1 c1 : Nat} {a2 : Option Addr} {n2 c2 : Nat} {x : Im} (p : Int) (w : World) (hg : Gl w) (hO : Lg.Ops w) (h : Img w F a0 n0 c0 a1 n1 c1 a2 n2 c2 x) (he : woE x p ≠ 0) :
    Calls Tryz.prog 6 #[.agg #[.slice a0 n0 c0, .slice a1 n1 c1, .slice a2 n2 c2], .int .i64 p] w fun e w' => e = .returned (.tuple #[.slice none 0 0, .int .i64 (woE x p)]) ∧ Kept No w w' := by
  obtain ⟨K0, _⟩ := imb w (.slice a0 n0 c0) (.slice a1 n1 c1) (.slice a2 n2 c2)
  have hi := h.kept K0 (fun _ _ h => h)
  have hlen := h.ps.len
  suffices hc : Calls Tryz.prog 15 #[.agg #[.slice a0 n0 c0, .slice a1 n1 c1, .slice a2 n2 c2], .int .i64 p] (w.alloc (.cells #[.slice a0 n0 c0, .slice a1 n1 c1, .slice a2 n2 c2] 26)) fun e w' => e = .returned (.tuple #[.int .i64 0, .int .i64 (woE x p)]) ∧ Kept No (w.alloc (.cells #[.slice a0 n0 c0, .slice a1 n1 c1, .slice a2 n2 c2] 26)) w' from
    worst_no _ _ _ p 0 _ w he hc
  have hgk := hg.kept K0
  have hok := ops_kept hO K0 (fun h => h)
  unfold woE at he ⊢
  by_cases h1 : fe (chkF x) ≠ 0
  · rw [if_pos h1]
    exact mul_refused p _ hgk hi h1
  · have hz : fe (chkF x) = 0 := by omega
    rw [if_neg h1] at he ⊢
    by_cases h2 : p < 1 ∨ (x.parts.length : Int) < p
    · rw [if_pos h2]
      exact mul_out p _ hgk hi hz (by rw [hlen] at h2; exact h2)
    · rw [if_neg h2] at he ⊢
      obtain ⟨q, rfl⟩ := Int.eq_ofNat_of_zero_le (show 0 ≤ p by omega)
      rw [Int.toNat_natCast] at he ⊢
      by_cases h3 : rfitB (x.parts.getD (q - 1) dPn) = false
      · rw [if_pos h3]
        exact mul_unfit q _ hgk hok hi hz (by omega) (by omega) h3
      · rw [if_neg h3] at he ⊢
        by_cases h4 : lcmB (zR (hyp (svs x.parts)) (x.parts.getD (q - 1) dPn).procs) ((x.parts.getD (q - 1) dPn).procs.length + 1) 1048576 = false
        · rw [if_pos h4]
          have hn := chk_none hz
          have ht : timF (svs x.parts) n0 = none := by rw [← hlen]; exact chk_tim hn
          have hnp := chk_np hn (i := q - 1) (by omega)
          have := mul_yes q _ hgk hok hi hz (by omega) (by omega) (by simpa using h3) ht (by omega)
          unfold mulV at this
          rw [h4] at this
          exact this
        · rw [if_neg h4] at he; exact absurd rfl he
end Go.Proofs.YtnmhcnppdhdhfaaGreatDoor

namespace Go.Proofs.YtnmhcnppdhdhfaaGreatDoor
open Go.RowKit
set_option linter.unusedVariables false
set_option linter.unusedSimpArgs false
set_option maxRecDepth 100000

theorem size_alloc (w : World) (o : Obj) : (w.alloc o).heap.size = w.heap.size + 1 := by simp
/-- the cells of what was just made -/
theorem cells_new (w : World) (cs : List Value) (t : TypeId) (b : Nat) (hb : b = w.heap.size) : ∀ j u, cs[j]? = some u → (w.alloc (.cells cs.toArray t)).cell? ((⟨b, 0, none⟩ : Addr).add j) = some u := by
  intro j u hj
  subst hb
  rw [add_none, Nat.zero_add]
  have h := heap_alloc_new w (.cells cs.toArray t)
  unfold World.cell?
  simp only [h]
  simpa using hj
def clI (x : Int) : List Value := [.int .i64 x]
theorem clI_one (x : Int) : ∀ u ∈ clI x, u.oneCell' = true := by
  intro u hu; unfold clI at hu; simp at hu; subst hu; rfl
theorem own_slice {w : World} {B : Nat} {t : TypeId} {sz : Nat} {v : Value} {n : Nat} {xs : List Value} (h : w.ownsRow B t sz v n xs) : ∃ a m c, v = .slice a m c := by
  obtain ⟨_, ⟨rfl, _⟩ | ⟨g, cap, cur, rfl, _⟩⟩ := h
  · exact ⟨_, _, _, rfl⟩
  · exact ⟨_, _, _, rfl⟩
def clB (x : Bool) : List Value := [.bool x]
theorem clB_one (x : Bool) : ∀ u ∈ clB x, u.oneCell' = true := by
  intro u hu; unfold clB at hu; simp at hu; subst hu; rfl
def clIns (x : Ins) : List Value := [.int .u8 x.op, .int .u8 x.a, .int .u8 x.b, .int .u8 x.c, .int .i32 x.imm]
theorem clIns_one (x : Ins) : ∀ u ∈ clIns x, u.oneCell' = true := by
  intro u hu; unfold clIns at hu; simp at hu; rcases hu with rfl | rfl | rfl | rfl | rfl <;> rfl
def clPrc (x : Prc) : List Value := [.int .i64 x.en, .int .i64 x.pr, .int .i64 x.pe, .int .i64 x.li, .int .i64 x.ca, .bool x.auto]
theorem clPrc_one (x : Prc) : ∀ u ∈ clPrc x, u.oneCell' = true := by
  intro u hu; unfold clPrc at hu; simp at hu; rcases hu with rfl | rfl | rfl | rfl | rfl | rfl <;> rfl
def clSm (x : Sm) : List Value := [.int .i64 x.st, .int .i64 x.mx]
theorem clSm_one (x : Sm) : ∀ u ∈ clSm x, u.oneCell' = true := by
  intro u hu; unfold clSm at hu; simp at hu; rcases hu with rfl | rfl <;> rfl
def clBf (x : Bf) : List Value := [.int .i64 x.sz, .int .i64 x.dp]
theorem clBf_one (x : Bf) : ∀ u ∈ clBf x, u.oneCell' = true := by
  intro u hu; unfold clBf at hu; simp at hu; rcases hu with rfl | rfl <;> rfl
def clPo (x : Po) : List Value := [.int .i64 x.pt, .int .i64 x.kd, .bool x.out, .int .i64 x.sz, .int .i64 x.dp, .int .i64 x.rf]
theorem clPo_one (x : Po) : ∀ u ∈ clPo x, u.oneCell' = true := by
  intro u hu; unfold clPo at hu; simp at hu; rcases hu with rfl | rfl | rfl | rfl | rfl | rfl <;> rfl
theorem sizePn : (Tryz.prog.info? 48).map (·.size) = some 21 := by kernel_rfl
theorem elPn_one {w : World} {G : Nat → Prop} {cs : List Value} {x : Pn} (h : elPn w G cs x) : ∀ v ∈ cs, v.oneCell' = true := by
  obtain ⟨a0, n0, c0, a1, n1, c1, a2, n2, c2, a3, n3, c3, a4, n4, c4, a5, n5, c5, rfl, _⟩ := h.sl
  intro v hv
  simp only [List.mem_cons, List.not_mem_nil, or_false] at hv
  rcases hv with rfl | rfl | rfl | rfl | rfl | rfl | rfl | rfl | rfl | rfl | rfl | rfl | rfl | rfl | rfl | rfl | rfl | rfl | rfl | rfl | rfl <;> rfl
theorem box_Pn (w : World) (cs : List Value) (hl : cs.length = 21) (h1 : ∀ v ∈ cs, v.oneCell' = true) :
    ∃ w2, (Instr.storeAt 48 (.pointer (some ⟨w.heap.size, 0, none⟩)) (.agg cs.toArray)).run Tryz.prog (w.alloc (.cells #[.int .i64 0, .int .i64 0, .int .i64 0, .int .i64 0, .int .i64 0, .int .i64 0, .slice none 0 0, .slice none 0 0, .slice none 0 0, .int .i64 0, .int .i64 0, .int .i64 0, .int .i64 0, .int .i64 0, .int .i64 0, .int .i64 0, .int .i64 0, .int .i64 0, .slice none 0 0, .slice none 0 0, .slice none 0 0] 48)) = .ok () w2 ∧
      (Instr.loadAt 48 (.pointer (some ⟨w.heap.size, 0, none⟩))).run Tryz.prog w2 = .ok (.agg cs.toArray) w2 ∧ Kept No w w2 := by
  have hb : Bk (w.alloc (.cells #[.int .i64 0, .int .i64 0, .int .i64 0, .int .i64 0, .int .i64 0, .int .i64 0, .slice none 0 0, .slice none 0 0, .slice none 0 0, .int .i64 0, .int .i64 0, .int .i64 0, .int .i64 0, .int .i64 0, .int .i64 0, .int .i64 0, .int .i64 0, .int .i64 0, .slice none 0 0, .slice none 0 0, .slice none 0 0] 48)) w.heap.size [.int .i64 0, .int .i64 0, .int .i64 0, .int .i64 0, .int .i64 0, .int .i64 0, .slice none 0 0, .slice none 0 0, .slice none 0 0, .int .i64 0, .int .i64 0, .int .i64 0, .int .i64 0, .int .i64 0, .int .i64 0, .int .i64 0, .int .i64 0, .int .i64 0, .slice none 0 0, .slice none 0 0, .slice none 0 0] 48 := heap_alloc_new w _
  have ht : (w.alloc (.cells #[.int .i64 0, .int .i64 0, .int .i64 0, .int .i64 0, .int .i64 0, .int .i64 0, .slice none 0 0, .slice none 0 0, .slice none 0 0, .int .i64 0, .int .i64 0, .int .i64 0, .int .i64 0, .int .i64 0, .int .i64 0, .int .i64 0, .int .i64 0, .int .i64 0, .slice none 0 0, .slice none 0 0, .slice none 0 0] 48)).there w.heap.size 0 21 := by
    intro j hj
    rw [Nat.zero_add]
    refine ⟨?_, hb.fz j⟩
    obtain ⟨v, hv⟩ : ∃ v, ([.int .i64 0, .int .i64 0, .int .i64 0, .int .i64 0, .int .i64 0, .int .i64 0, .slice none 0 0, .slice none 0 0, .slice none 0 0, .int .i64 0, .int .i64 0, .int .i64 0, .int .i64 0, .int .i64 0, .int .i64 0, .int .i64 0, .int .i64 0, .int .i64 0, .slice none 0 0, .slice none 0 0, .slice none 0 0] : List Value)[j]? = some v := ⟨_, List.getElem?_eq_getElem (by simpa using hj)⟩
    rw [hb.cell hv]; rfl
  refine ⟨(w.alloc (.cells #[.int .i64 0, .int .i64 0, .int .i64 0, .int .i64 0, .int .i64 0, .int .i64 0, .slice none 0 0, .slice none 0 0, .slice none 0 0, .int .i64 0, .int .i64 0, .int .i64 0, .int .i64 0, .int .i64 0, .int .i64 0, .int .i64 0, .int .i64 0, .int .i64 0, .slice none 0 0, .slice none 0 0, .slice none 0 0] 48)).setCells w.heap.size 0 cs, ?_, ?_, ?_⟩
  · exact run_storeAt_mid _ w.heap.size 0 _ cs.toArray (by simpa [hl] using ht) (by rw [sizePn]; simp [hl]) (all_oneCell_toArray h1)
  · exact run_loadAt_mid _ w.heap.size 0 _ cs _ (World.rangeAt_setCells_same _ _ _ _ (by rw [hl]; exact ht)) Tryz.underlying48 rfl (by rw [hl]; exact sizePn)
  · exact setCells_kept _ _ _ _ _ ((Kept.refl No w).alloc _) (Nat.le_refl _)
/-- all the cells of a row, set one by one -/
def setL : List Value → Nat → List Value → List Value
  | l, _, [] => l
  | l, o, v :: r => setL (l.set o v) (o + 1) r
theorem Bk.setCells {b : Nat} {t : TypeId} : ∀ (vs : List Value) (w : World) (l : List Value) (o : Nat), Bk w b l t → Bk (w.setCells b o vs) b (setL l o vs) t
  | [], w, l, o, h => h
  | v :: vs, w, l, o, h => Bk.setCells vs _ _ _ (h.set o v)
theorem setL_all : ∀ (vs pre post : List Value), post.length = vs.length → setL (pre ++ post) pre.length vs = pre ++ vs
  | [], pre, post, h => by
    have : post = [] := List.eq_nil_of_length_eq_zero h
    subst this; rfl
  | v :: vs, pre, [], h => by simp at h
  | v :: vs, pre, q :: post, h => by
    show setL ((pre ++ q :: post).set pre.length v) (pre.length + 1) vs = _
    rw [List.set_append_right _ _ (Nat.le_refl _), Nat.sub_self, List.set_cons_zero]
    have := setL_all vs (pre ++ [v]) post (by simpa using h)
    simpa using this
theorem flat_get {α : Type} (sz : Nat) : ∀ (css : List (List α)), (∀ cs ∈ css, cs.length = sz) → ∀ i j cs, css[i]? = some cs → j < sz → css.flatten[i * sz + j]? = cs[j]?
  | [], _, i, j, cs, h, _ => by simp at h
  | c :: css, hl, 0, j, cs, h, hj => by
    simp at h; subst h
    have := hl c (by simp)
    rw [Nat.zero_mul, Nat.zero_add, List.flatten_cons, List.getElem?_append_left (by omega)]
  | c :: css, hl, i + 1, j, cs, h, hj => by
    have hc := hl c (by simp)
    rw [List.flatten_cons, List.getElem?_append_right (by rw [hc, Nat.add_mul]; omega), hc, show (i + 1) * sz + j - sz = i * sz + j by rw [Nat.add_mul]; omega]
    exact flat_get sz css (fun cs h => hl cs (List.mem_cons_of_mem _ h)) i j cs (by simpa using h) hj
theorem Tryz.infEPn : (Tryz.prog.info? 48).map (fun i => (i.zero, i.size, i.bytes)) = some (some (.agg #[.int .i64 0, .int .i64 0, .int .i64 0, .int .i64 0, .int .i64 0, .int .i64 0, .slice none 0 0, .slice none 0 0, .slice none 0 0, .int .i64 0, .int .i64 0, .int .i64 0, .int .i64 0, .int .i64 0, .int .i64 0, .int .i64 0, .int .i64 0, .int .i64 0, .slice none 0 0, .slice none 0 0, .slice none 0 0]), 21, 264) := by kernel_rfl
section
variable {o : Oper} {a : Act} {w : World}
theorem er_bsPn (x : Operand) (ho : o.op = .buildSlice 22 1 #[(0, x)]) (cs : List Value) (hl : cs.length = 21) (h1 : ∀ v ∈ cs, v.oneCell' = true) (hx : a.eval x = .agg cs.toArray) : (execOp a.eval o).run Tryz.prog w = .ok (.value (.slice (some ⟨w.heap.size, 0, none⟩) 1 1)) (w.alloc (.cells cs.toArray 48)) := by
  match cs, hl with
  | [e0, e1, e2, e3, e4, e5, e6, e7, e8, e9, e10, e11, e12, e13, e14, e15, e16, e17, e18, e19, e20], _ =>
    simp only [execOp, ho, List.map_toArray, List.map_cons, List.map_nil, hx]
    simp [go_sem]
end
section
variable {o : Oper} {a : Act} {w : World}
theorem er_appPn (s x : Operand) (ho : o.op = .call { callee := .builtin .append, args := #[s, x], argTypes := #[22, 22] }) (u v r : Value) {w' : World} (hs : a.eval s = u) (hx : a.eval x = v) (hr : (Builtin.append_ #[22, 22] o.type #[u, v]).run Tryz.prog w = .ok r w') : (execOp a.eval o).run Tryz.prog w = .ok (.value r) w' := by
  simp only [execOp, ho, resolve, invoke, builtin, Sem.run_bind, Sem.run_pure, Result.andThen_ok, List.map_toArray, List.map_cons, List.map_nil, hs, hx, hr]
end
theorem Tryz.infECh : (Tryz.prog.info? 65).map (fun i => (i.zero, i.size, i.bytes)) = some (some (.agg #[.int .i64 0, .int .i64 0, .slice none 0 0, .int .i64 0, .int .i64 0]), 5, 56) := by kernel_rfl
theorem sizeECh : (Tryz.prog.info? 65).map (·.size) = some 5 := by kernel_rfl
section
variable {o : Oper} {a : Act} {w : World}
theorem er_alChE (ho : o.op = .alloc 65) : (execOp a.eval o).run Tryz.prog w = .ok (.value (.pointer (some ⟨w.heap.size, 0, none⟩))) (w.alloc (.cells #[.int .i64 0, .int .i64 0, .slice none 0 0, .int .i64 0, .int .i64 0] 65)) := by
  simp only [execOp, ho, Instr.alloc, newVar]; simp [Value.cells, go_sem]
end
section
variable {o : Oper} {a : Act} {w : World}
theorem er_bsCh (x : Operand) (ho : o.op = .buildSlice 24 1 #[(0, x)]) (cs : List Value) (hl : cs.length = 5) (h1 : ∀ v ∈ cs, v.oneCell' = true) (hx : a.eval x = .agg cs.toArray) : (execOp a.eval o).run Tryz.prog w = .ok (.value (.slice (some ⟨w.heap.size, 0, none⟩) 1 1)) (w.alloc (.cells cs.toArray 65)) := by
  match cs, hl with
  | [e0, e1, e2, e3, e4], _ =>
    simp only [execOp, ho, List.map_toArray, List.map_cons, List.map_nil, hx]
    simp [go_sem]
end
section
variable {o : Oper} {a : Act} {w : World}
theorem er_appCh (s x : Operand) (ho : o.op = .call { callee := .builtin .append, args := #[s, x], argTypes := #[24, 24] }) (u v r : Value) {w' : World} (hs : a.eval s = u) (hx : a.eval x = v) (hr : (Builtin.append_ #[24, 24] o.type #[u, v]).run Tryz.prog w = .ok r w') : (execOp a.eval o).run Tryz.prog w = .ok (.value r) w' := by
  simp only [execOp, ho, resolve, invoke, builtin, Sem.run_bind, Sem.run_pure, Result.andThen_ok, List.map_toArray, List.map_cons, List.map_nil, hs, hx, hr]
end
theorem box_ChE (w : World) (cs : List Value) (hl : cs.length = 5) (h1 : ∀ v ∈ cs, v.oneCell' = true) :
    ∃ w2, (Instr.storeAt 65 (.pointer (some ⟨w.heap.size, 0, none⟩)) (.agg cs.toArray)).run Tryz.prog (w.alloc (.cells #[.int .i64 0, .int .i64 0, .slice none 0 0, .int .i64 0, .int .i64 0] 65)) = .ok () w2 ∧
      (Instr.loadAt 65 (.pointer (some ⟨w.heap.size, 0, none⟩))).run Tryz.prog w2 = .ok (.agg cs.toArray) w2 ∧ Kept No w w2 := by
  have hb : Bk (w.alloc (.cells #[.int .i64 0, .int .i64 0, .slice none 0 0, .int .i64 0, .int .i64 0] 65)) w.heap.size [.int .i64 0, .int .i64 0, .slice none 0 0, .int .i64 0, .int .i64 0] 65 := heap_alloc_new w _
  have ht : (w.alloc (.cells #[.int .i64 0, .int .i64 0, .slice none 0 0, .int .i64 0, .int .i64 0] 65)).there w.heap.size 0 5 := by
    intro j hj
    rw [Nat.zero_add]
    refine ⟨?_, hb.fz j⟩
    obtain ⟨v, hv⟩ : ∃ v, ([.int .i64 0, .int .i64 0, .slice none 0 0, .int .i64 0, .int .i64 0] : List Value)[j]? = some v := ⟨_, List.getElem?_eq_getElem (by simpa using hj)⟩
    rw [hb.cell hv]; rfl
  refine ⟨(w.alloc (.cells #[.int .i64 0, .int .i64 0, .slice none 0 0, .int .i64 0, .int .i64 0] 65)).setCells w.heap.size 0 cs, ?_, ?_, ?_⟩
  · exact run_storeAt_mid _ w.heap.size 0 _ cs.toArray (by simpa [hl] using ht) (by rw [sizeECh]; simp [hl]) (all_oneCell_toArray h1)
  · exact run_loadAt_mid _ w.heap.size 0 _ cs _ (World.rangeAt_setCells_same _ _ _ _ (by rw [hl]; exact ht)) Tryz.underlying65 rfl (by rw [hl]; exact sizeECh)
  · exact setCells_kept _ _ _ _ _ ((Kept.refl No w).alloc _) (Nat.le_refl _)
theorem set3 {w : World} {b : Nat} {t : TypeId} {u0 u1 u2 : Value} (h : Bk w b [u0, u1, u2] t) (v0 v1 v2 : Value) : Bk (((w.setCell ⟨b, 0, none⟩ v0).setCell ⟨b, 1, none⟩ v1).setCell ⟨b, 2, none⟩ v2) b [v0, v1, v2] t := ((h.set 0 v0).set 1 v1).set 2 v2
theorem setK3 (w : World) (b : Nat) (v0 v1 v2 : Value) : Kept (fun k => k = b) w (((w.setCell ⟨b, 0, none⟩ v0).setCell ⟨b, 1, none⟩ v1).setCell ⟨b, 2, none⟩ v2) := (((Kept.refl (fun k => k = b) w).setCell (p := ⟨b, 0, none⟩) (.inl rfl) _).setCell (p := ⟨b, 1, none⟩) (.inl rfl) _).setCell (p := ⟨b, 2, none⟩) (.inl rfl) _
theorem Ls.of_rows {α : Type} {sz : Nat} {El : World → (Nat → Prop) → List Value → α → Prop} {w : World} {F : Nat → Prop} {B : Nat} {t : TypeId} {a : Option Addr} {n c : Nat} {l : List α} {css : List (List Value)} (hz : 0 < sz)
    (h : w.ownsRow B t sz (.slice a n c) l.length css.flatten) (hc : css.length = l.length) (hl : ∀ cs ∈ css, cs.length = sz) (hF : ∀ g, B ≤ g → g < w.heap.size → F g) (hE : ∀ (i : Nat) cs x, css[i]? = some cs → l[i]? = some x → El w F cs x) : Ls sz El w F a n c l := by
  have hlt := h.lt
  have hcells := h
  obtain ⟨_, ⟨h1, h2⟩ | ⟨g, cap, cur, h1, hb, hg, hn, hm, _, _⟩⟩ := h
  · injection h1 with e1 e2 e3
    subst e1 e2 e3
    refine ⟨h2, Nat.le_refl _, by omega, fun _ => rfl, fun i x hx => ?_⟩
    have : l = [] := List.eq_nil_of_length_eq_zero h2
    subst this
    simp at hx
  · injection h1 with e1 e2 e3
    subst e1 e2 e3
    refine ⟨rfl, hn, hm, fun h => (by cases h), fun i x hx => ?_⟩
    obtain ⟨cs, hcs⟩ : ∃ cs, css[i]? = some cs := ⟨_, List.getElem?_eq_getElem (by rw [hc]; exact (List.getElem?_eq_some_iff.1 hx).1)⟩
    have hcl := hl cs (List.mem_of_getElem? hcs)
    have hq := hlt g rfl
    refine ⟨g, 0, cs, rfl, hF g hq.1 hq.2, hcl, ?_, hE i cs x hcs hx⟩
    intro j u hj
    have hjl : j < sz := by rw [← hcl]; exact (List.getElem?_eq_some_iff.1 hj).1
    have e := flat_get sz css hl i j cs hcs hjl
    have := hcells.cells (g := g) rfl (i * sz + j) u (by rw [e]; exact hj)
    rw [add_none, Nat.zero_add] at this
    rw [Nat.zero_add]
    exact this
theorem flat_ls {α : Type} {sz : Nat} {cl : α → List Value} {El : World → (Nat → Prop) → List Value → α → Prop} {ok : α → Prop} {w : World} {F : Nat → Prop} {B : Nat} {t : TypeId} {a : Option Addr} {n c : Nat} {l : List α} (hz : 0 < sz)
    (h : w.ownsRow B t sz (.slice a n c) l.length ((l.map cl).flatten)) (hcl : ∀ x, (cl x).length = sz) (ho : okL ok l) (hF : ∀ g, B ≤ g → g < w.heap.size → F g) (hE : ∀ x, ok x → El w F (cl x) x) : Ls sz El w F a n c l := by
  refine Ls.of_rows (css := l.map cl) hz h (by simp) (fun cs hm => ?_) hF (fun i cs x hc hx => ?_)
  · rw [List.mem_map] at hm
    obtain ⟨x, _, rfl⟩ := hm
    exact hcl x
  · rw [List.getElem?_map, hx] at hc
    simp at hc
    subst hc
    exact hE x (ho x (List.mem_of_getElem? hx))
/-- where what is handed in lies -/
def Hn (W : World) (k : Nat) : Prop := k < W.heap.size
/-- how long the lists of a channel, of a partition, of an image may be -/
def szCh (x : Ch) : Prop := x.dst.length * 8 ≤ reachBytes
def szPn (x : Pn) : Prop := x.init.length * 8 ≤ reachBytes ∧ x.code.length * 8 ≤ reachBytes ∧ x.procs.length * 48 ≤ reachBytes ∧ x.sems.length * 16 ≤ reachBytes ∧ x.evs.length ≤ reachBytes ∧ x.bufs.length * 16 ≤ reachBytes
def szIm (x : Im) : Prop := x.parts.length * 264 ≤ reachBytes ∧ x.ports.length * 48 ≤ reachBytes ∧ x.chans.length * 56 ≤ reachBytes ∧ (∀ p ∈ x.parts, szPn p) ∧ ∀ c ∈ x.chans, szCh c
end Go.Proofs.YtnmhcnppdhdhfaaGreatDoor
