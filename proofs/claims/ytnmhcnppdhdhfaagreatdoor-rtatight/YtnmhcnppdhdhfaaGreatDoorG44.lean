/-
  One text: YSet, YIt, YEx.
-/
import Derived.Test.YtnmhcnppdhdhfaaGreatDoorHYCopy
import Derived.Test.YtnmhcnppdhdhfaaGreatDoorG04
import Derived.Test.YtnmhcnppdhdhfaaGreatDoorG40
import Derived.Deep.RegionWith
namespace Go.Proofs.YtnmhcnppdhdhfaaGreatDoor
open Go.RowKit
set_option linter.unusedVariables false
set_option linter.unusedSimpArgs false
set_option maxRecDepth 100000

theorem Ls.setOne {w : World} {P : Nat → Prop} {g of n c j f : Nat} {xs : List Prc} {z z' : Prc} {v : Value} (h : Ls 6 elPrc w P (some ⟨g, of, none⟩) n c xs) (hz : xs[j]? = some z) (hc : clPrc z' = (clPrc z).set f v) (hf : f < 6) (hok : okPrc z') : Ls 6 elPrc (w.setCell ⟨g, of + j * 6 + f, none⟩ v) P (some ⟨g, of, none⟩) n c (xs.set j z') := by
  refine ⟨by rw [List.length_set]; exact h.len, h.cap, h.max, fun e => (by cases e), fun i y hy => ?_⟩
  have hjl : j < xs.length := (List.getElem?_eq_some_iff.1 hz).1
  by_cases e : i = j
  · subst e
    rw [List.getElem?_set_self hjl] at hy
    injection hy with hy
    subst hy
    obtain ⟨b, o, cs, ha, hb, hl, hr, hE, ho⟩ := h.at' i z hz
    injection ha with ha
    injection ha with e1 e2 _
    subst e1 e2
    refine ⟨_, _, clPrc z', rfl, hb, rfl, fun k u hk => ?_, rfl, hok⟩
    have hk6 : k < 6 := (List.getElem?_eq_some_iff.1 hk).1
    have hE2 : cs = clPrc z := hE
    subst hE2
    obtain ⟨u0, hu0⟩ : ∃ u0, (clPrc z)[k]? = some u0 := ⟨_, List.getElem?_eq_getElem hk6⟩
    have := cell_setG (j := of + i * 6 + f) (v := v) (hr k u0 hu0)
    rw [this]
    rw [hc] at hk
    by_cases q : k = f
    · subst q
      rw [if_pos rfl]
      rw [List.getElem?_set_self hk6] at hk
      exact hk
    · rw [if_neg (by omega)]
      rw [List.getElem?_set_ne (by omega)] at hk
      rw [hu0] at hk
      exact hk
  · rw [List.getElem?_set_ne (by omega)] at hy
    obtain ⟨b, o, cs, ha, hb, hl, hr, hE⟩ := h.at' i y hy
    injection ha with ha
    injection ha with e1 e2 _
    subst e1 e2
    refine ⟨_, _, cs, rfl, hb, hl, fun k u hk => ?_, hE⟩
    have hk6 : k < 6 := by rw [← hl]; exact (List.getElem?_eq_some_iff.1 hk).1
    rw [cell_setG (hr k u hk), if_neg (by omega)]
/-- the partition whose j-th process is another -/
def setPr (p : Pn) (j : Nat) (z : Prc) : Pn := { p with procs := p.procs.set j z }
theorem setPr_ok {p : Pn} {j : Nat} {z : Prc} (h : okPn p) (hz : okPrc z) : okPn (setPr p j z) := by
  obtain ⟨o1, o2, o3, o4, o5, o6, o7, o8, o9, o10⟩ := h
  exact ⟨o1, o2, o3, o4, o5, o6, o7, o8, fun y hy => by
    rcases List.mem_or_eq_of_mem_set hy with h | h
    · exact o9 y h
    · subst h; exact hz, o10⟩
/-- where a partition's processes lie -/
theorem LsP.procs {w : World} {lo hi : Nat} {a : Option Addr} {n c q : Nat} {l : List Pn} {p : Pn} (h : LsP w lo hi a n c l) (hq : l[q]? = some p) :
    ∃ b o a2 n2 c2, a = some ⟨b, o, none⟩ ∧ w.cell? ⟨b, o + q * 21 + 8, none⟩ = some (.slice a2 n2 c2) ∧ lo ≤ b ∧ b < hi ∧ Ls 6 elPrc w (fun g => lo ≤ g ∧ g < hi) a2 n2 c2 p.procs ∧ (∀ g of, a2 = some ⟨g, of, none⟩ → 0 < n2 → (∀ j, w.frozen? ⟨g, j, none⟩ = false) ∧ lo ≤ g ∧ g < hi ∧ g ≠ b ∧
      ∀ j z z' f v, p.procs[j]? = some z → clPrc z' = (clPrc z).set f v → f < 6 → okPrc z' → LsP (w.setCell ⟨g, of + j * 6 + f, none⟩ v) lo hi a n c (l.set q (setPr p j z'))) := by
  obtain ⟨h1, h2, h3, h4, R, Fs, Ps, ha, hR, hd, h5⟩ := h
  obtain ⟨b, o, cs, e, hb, hl, hr, hE⟩ := h5 q p hq
  have hqn : q < n := by rw [← h1]; exact (List.getElem?_eq_some_iff.1 hq).1
  have hE0 := hE
  obtain ⟨⟨a0, n0, c0, a1, n1, c1, a2, n2, c2, a3, n3, c3, a4, n4, c4, a5, n5, c5, ec, s0, s1, s2, s3, s4, s5⟩, ok⟩ := hE
  refine ⟨b, o, a2, n2, c2, e, hr 8 _ (by rw [ec]; rfl), (hR b hb).1, (hR b hb).2, s2.mono (fun g hg => ha.lt q g hqn (.inr hg)) (fun _ _ h => h), ?_⟩
  intro g of ea h0
  subst ea
  have hPg : Ps q g := by
    obtain ⟨y, hy⟩ : ∃ y, p.procs[0]? = some y := ⟨_, List.getElem?_eq_getElem (by rw [s2.len]; exact h0)⟩
    obtain ⟨b', o', cs', ha', hb', _⟩ := s2.at' 0 y hy
    injection ha' with ha'
    injection ha' with e1 _ _
    subst e1
    exact hb'
  have hgb : g ≠ b := fun e => hd q g hqn (.inr hPg) (e ▸ hb)
  refine ⟨ha.fz q g hqn hPg, (ha.lt q g hqn (.inr hPg)).1, (ha.lt q g hqn (.inr hPg)).2, hgb, fun j z z' f v hz hc hf hok => ?_⟩
  have kk : Kept (fun k => k = g) w (w.setCell ⟨g, of + j * 6 + f, none⟩ v) := (Kept.refl (fun k => k = g) w).setCell (p := ⟨g, of + j * 6 + f, none⟩) (.inl rfl) _
  refine ⟨by rw [List.length_set]; exact h1, h2, h3, h4, R, Fs, Ps, ⟨ha.lt, ha.ap, fun i g' hi hg' x => by rw [World.frozen?_setCell]; exact ha.fz i g' hi hg' x⟩, hR, hd, fun i x hx => ?_⟩
  by_cases ei : i = q
  · subst ei
    rw [List.getElem?_set_self (by rw [h1]; exact hqn)] at hx
    injection hx with hx
    subst hx
    refine ⟨b, o, cs, e, hb, hl, rangeAt_kept hr kk (fun e => hgb e.symm), ?_⟩
    have hF : ∀ k, Fs i k → ¬ (k = g) := fun k hk e => (ha.ap i i g hqn hqn hPg).1 (e ▸ hk)
    exact ⟨⟨a0, n0, c0, a1, n1, c1, _, n2, c2, a3, n3, c3, a4, n4, c4, a5, n5, c5, ec, s0.kept kk hF (elI_kept kk hF), s1.kept kk hF (elIns_kept kk hF), s2.setOne hz hc hf hok, s3.kept kk hF (elSm_kept kk hF), s4.kept kk hF (elB_kept kk hF), s5.kept kk hF (elBf_kept kk hF)⟩, setPr_ok ok hok⟩
  · rw [List.getElem?_set_ne (by omega)] at hx
    obtain ⟨b', o', cs', e', hb', hl', hr', hE'⟩ := h5 i x hx
    have hin : i < n := by rw [← h1]; exact (List.getElem?_eq_some_iff.1 hx).1
    refine ⟨b', o', cs', e', hb', hl', rangeAt_kept hr' kk (fun e => hd q g hqn (.inr hPg) (e ▸ hb')), hE'.kept kk (fun k hk e => (ha.ap q i g hqn hin hPg).1 (e ▸ hk)) (fun k hk e => ei ((ha.ap i q k hin hqn hk).2 (e ▸ hPg)))⟩
end Go.Proofs.YtnmhcnppdhdhfaaGreatDoor

namespace Go.Proofs.YtnmhcnppdhdhfaaGreatDoor
open Go.RowKit Plain
set_option linter.unusedVariables false
set_option linter.unusedSimpArgs false
set_option maxRecDepth 100000

/-- all of the first n are in time -/
def itB (f : Nat → Int) (xs : List Prc) : Nat → Bool
  | 0 => true
  | n + 1 => itB f xs n && (f n != -1 && decide (f n ≤ (xs.getD n dPrc).li))
theorem itB_no {f : Nat → Int} {xs : List Prc} {k : Nat} (h : (f k != -1 && decide (f k ≤ (xs.getD k dPrc).li)) = false) : ∀ n, k < n → itB f xs n = false
  | 0, hn => by omega
  | n + 1, hn => by
    rcases Nat.lt_or_eq_of_le (Nat.lt_succ_iff.1 hn) with h1 | h1
    · rw [itB, itB_no h n h1]; rfl
    · subst h1; rw [itB, h]; simp
set_option maxHeartbeats 4000000 in
theorem inTime_err (v0 v1 v2 : Value) (p er : Int) (w : World) (hz : er ≠ 0)
    (hc : Calls Tryz.prog 6 #[.agg #[v0, v1, v2], .int .i64 p] (w.alloc (.cells #[v0, v1, v2] 26)) fun e w' => e = .returned (.tuple #[.slice none 0 0, .int .i64 er]) ∧ Kept No (w.alloc (.cells #[v0, v1, v2] 26)) w') :
    Calls Tryz.prog 13 #[.agg #[v0, v1, v2], .int .i64 p] w fun e w' => e = .returned (.tuple #[.bool false, .int .i64 er]) ∧ Kept No w w' := by
  obtain ⟨K0, HM0⟩ := imb w v0 v1 v2
  obtain ⟨m0, m1, m2, _⟩ := HM0 _ (Kept.refl _ _)
  have HK0 : Hid (Kept No w (w.alloc (.cells #[v0, v1, v2] 26))) := K0
  clear HM0 K0
  go_enter Tryz.func13, Tryz.ntmps13
  go_wp2_with (go_at_call 6; refine hc.mono ?_; rintro e w1 ⟨rfl, k1⟩; have HK1 : Hid (Kept No w w1) := HK0.out.trans k1 (fun _ h => h.elim); clear k1)
  go_ret2
  exact ⟨rfl, HK1.out⟩

set_option maxHeartbeats 8000000 in
theorem inTime_yes {F : Nat → Prop} {a0 : Option Addr} {n0 c0 : Nat} (v1 v2 : Value) (ps : List Pn) (w : World) (h : Ls 21 elPn w F a0 n0 c0 ps) (p n : Nat) (hp1 : 1 ≤ p) (hp2 : p ≤ n0) (hn : (ps.getD (p - 1) dPn).procs.length = n) (hn64 : n ≤ 70000) (Q : (Nat → Int) → Prop)
    (hc : Calls Tryz.prog 6 #[.agg #[.slice a0 n0 c0, v1, v2], .int .i64 (p : Int)] (w.alloc (.cells #[.slice a0 n0 c0, v1, v2] 26)) fun e w' => ∃ gl f, e = .returned (.tuple #[.slice (some ⟨gl, 0, none⟩) n n, .int .i64 0]) ∧ Q f ∧ Nm w' gl n f ∧ Kept No (w.alloc (.cells #[.slice a0 n0 c0, v1, v2] 26)) w') :
    Calls Tryz.prog 13 #[.agg #[.slice a0 n0 c0, v1, v2], .int .i64 (p : Int)] w fun e w' => ∃ f, Q f ∧ e = .returned (.tuple #[.bool (itB f (ps.getD (p - 1) dPn).procs n), .int .i64 0]) ∧ Kept No w w' := by
  obtain ⟨K0, HM0⟩ := imb w (.slice a0 n0 c0) v1 v2
  obtain ⟨m0, m1, m2, _⟩ := HM0 _ (Kept.refl _ _)
  have HM : Hid (∀ W, Kept No (w.alloc (.cells #[.slice a0 n0 c0, v1, v2] 26)) W → W.cell? ⟨w.heap.size, 0, none⟩ = some (.slice a0 n0 c0) ∧ W.cell? ⟨w.heap.size, 1, none⟩ = some v1 ∧ W.cell? ⟨w.heap.size, 2, none⟩ = some v2 ∧ Kept No w W) := HM0
  have hlen := h.len
  have hmax := h.max
  have hcap := h.cap
  have hx : ps[p - 1]? = some (ps.getD (p - 1) dPn) := by rw [List.getD, List.getElem?_eq_getElem (by omega)]; rfl
  obtain ⟨b, o', cs, rfl, hb, hl, hr, hPn⟩ := h.at' _ _ hx
  generalize hy : ps.getD (p - 1) dPn = y at *
  obtain ⟨b0, n0', k0, b1, n1', k1, b2, n2, k2, b3, n3, k3, b4, n4, k4, b5, n5, k5, he, _, _, hL, _⟩ := hPn.sl
  have hn2 : n2 = n := by rw [← hL.len, hn]
  subst hn2
  have c8 : w.cell? ⟨b, o' + (p - 1) * 21 + 8, none⟩ = some (.slice b2 n2 k2) := hr 8 _ (by rw [he]; rfl)
  have HC8 : Hid (∀ W, Kept No w W → W.cell? ⟨b, o' + (p - 1) * 21 + 8, none⟩ = some (.slice b2 n2 k2)) := fun W k => k.cell c8 (fun h => h)
  have HL : Hid (Ls 6 elPrc w F b2 n2 k2 y.procs) := hL
  have hLc := hL.cap
  have hLm := hL.max
  generalize y.procs = xs at *
  clear h hx hb hl hr hPn he hL hy hn K0 HM0 hlen c8
  go_enter Tryz.func13, Tryz.ntmps13
  go_upto_region 4 with (go_at_call 6; refine hc.mono ?_; rintro e w1 ⟨gl, f, rfl, hQ, hN, k1⟩; obtain ⟨q0, q1, q2, K⟩ := HM.out _ k1; have HN : Hid (Nm w1 gl n2 f) := hN; have HK1 : Hid (Kept No w w1) := K; have HQ : Hid (Q f) := hQ; clear k1 hN K hQ)
  have c8 := HC8.out w1 HK1.out
  have HPS : Hid (Kept No w w1) := HK1.out
  clear q1 q2 m0 m1 m2
  go_upto_region 5 with fail
  go_wp2
  go_loopw [27] (fun i wr => ∃ k : Nat, k ≤ n2 ∧ i = .int .i64 k ∧ Kept No w1 wr ∧ itB f xs k = true) (fun i _ => n2 - (intOf i).toNat)
  case atStart => exact ⟨0, by omega, rfl, Kept.refl _ _, rfl⟩
  case round =>
    obtain ⟨k, hk, rfl, K, hb⟩ := hrel
    have HB : Hid (itB f xs k = true) := hb
    have HK : Hid (Kept No w1 wr) := K
    have hl := HL.out.len
    have hgl := HN.out.lt
    by_cases hlt : k < n2
    · have hx : xs[k]? = some (xs.getD k dPrc) := getD_prc (by omega)
      obtain ⟨bb, oo, cs, rfl, _, _, hr, hE, hok⟩ := HL.out.at' k _ hx
      have hE2 : cs = clPrc (xs.getD k dPrc) := hE
      subst hE2
      have dd : ∀ j v, (clPrc (xs.getD k dPrc))[j]? = some v → wr.cell? ⟨bb, oo + k * 6 + j, none⟩ = some v := fun j v hj => (HK1.out.trans K (fun _ h => h.elim)).cell (hr j v hj) (fun h => h)
      have e0 := dd 0 _ rfl
      have e1 := dd 1 _ rfl
      have e2 := dd 2 _ rfl
      have e3 := dd 3 _ rfl
      have e4 := dd 4 _ rfl
      have e5 := dd 5 _ rfl
      rw [Nat.add_zero] at e0
      have ef : ∀ W, Kept No wr W → W.cell? ⟨gl, k, none⟩ = some (.int .i64 (f k)) := fun W kw => (K.trans kw (fun _ h => h.elim)).cell (HN.out.2 k hlt) (fun h => h)
      have EF : Hid (∀ W, Kept No wr W → W.cell? ⟨gl, k, none⟩ = some (.int .i64 (f k))) := ef
      have hB1 : Hid (itB f xs (k + 1) = (itB f xs k && (f k != -1 && decide (f k ≤ (xs.getD k dPrc).li)))) := rfl
      have HNO : Hid ((f k != -1 && decide (f k ≤ (xs.getD k dPrc).li)) = false → itB f xs n2 = false) := fun h => itB_no h n2 hlt
      generalize xs.getD k dPrc = z at *
      obtain ⟨z0, z1, z2, z3, z4, z5⟩ := z
      generalize f k = v at *
      clear hb K hl hgl hx hr hE hok dd ef
      simp only at hB1 HNO
      go_upto_region 7 with fail
      have ef := EF.out _ ((Kept.refl No wr).alloc (.cells #[.int .i64 z0, .int .i64 z1, .int .i64 z2, .int .i64 z3, .int .i64 z4, .bool z5] 54))
      have e9 : (wr.alloc (.cells #[.int .i64 z0, .int .i64 z1, .int .i64 z2, .int .i64 z3, .int .i64 z4, .bool z5] 54)).cell? ⟨wr.heap.size, 3, none⟩ = some (.int .i64 z3) := by simp
      have HKA : Hid (Kept No w1 (wr.alloc (.cells #[.int .i64 z0, .int .i64 z1, .int .i64 z2, .int .i64 z3, .int .i64 z4, .bool z5] 54))) := HK.out.alloc _
      generalize wr.alloc (.cells #[.int .i64 z0, .int .i64 z1, .int .i64 z2, .int .i64 z3, .int .i64 z4, .bool z5] 54) = w5 at *
      have hgk : (k : Int) < (n2 : Int) := by omega
      clear e0 e1 e2 e3 e4 e5
      by_cases hv : v = -1
      · subst hv
        have hno : itB f xs n2 = false := HNO.out (by simp)
        have HNO2 : Hid (itB f xs n2 = false) := hno
        clear hno
        go_quiet (fail)
        go_wp2
        go_ret2
        exact ⟨f, HQ.out, by rw [HNO2.out]; rfl, (HK1.out.trans HKA.out (fun _ h => h.elim)).drewN _⟩
      · by_cases hz : z3 < v
        · have HNO2 : Hid (itB f xs n2 = false) := HNO.out (by simp; omega)
          go_quiet (fail)
          go_wp2
          go_ret2
          exact ⟨f, HQ.out, by rw [HNO2.out]; rfl, (HK1.out.trans HKA.out (fun _ h => h.elim)).drewN _⟩
        · have HY : Hid (itB f xs (k + 1) = true) := by
            have h1 := hB1.out
            rw [HB.out] at h1
            exact h1.trans (by simp [hv]; omega)
          go_quiet (fail)
          go_wp2
          go_roundw
          case rel => exact ⟨k + 1, by omega, by go_num, HKA.out.drewN _, HY.out⟩
          case measure => simp [intOf]; omega
    · have hkn : k = n2 := by omega
      subst hkn
      clear hb K
      go_wp2
      go_ret2
      exact ⟨f, HQ.out, by rw [HB.out]; rfl, HK1.out.trans HK.out (fun _ h => h.elim)⟩
end Go.Proofs.YtnmhcnppdhdhfaaGreatDoor

namespace Go.Proofs.YtnmhcnppdhdhfaaGreatDoor
open Go.RowKit Plain
set_option linter.unusedVariables false
set_option linter.unusedSimpArgs false
set_option maxRecDepth 100000

def exPs (c : Int) : List Prc := [⟨0, 9, 8, 4, 1, true⟩, ⟨0, 5, 8, 8, c, true⟩]
def exP (c : Int) : Pn := ⟨4, 2, 0, 1, 0, 0, [], [⟨1, 0, 0, 0, 0⟩], exPs c, 0, 0, 0, 0, 0, 0, 0, 0, 0, [], [], []⟩
def exIm (c : Int) : Im := ⟨[exP c], [], []⟩
theorem ex3_ok : woE (exIm 3) 1 = 0 := by decide +kernel
theorem ex4_ok : woE (exIm 4) 1 = 0 := by decide +kernel
/-- the ticks of the chapter's partition -/
def exO : Nat → Bool := occB (Rule.occ (sys (svs [exP 3]))) 1
theorem exO_eq (c : Int) : occB (Rule.occ (sys (svs (exIm c).parts))) 1 = exO := rfl
def exT : Nat → Nat := fun _ => 8
def exC (c : Nat) : Nat → Nat := fun k => if k = 0 then 1 else c
def okD (A : Nat → Bool) (C : Nat → Nat) (T E : Nat) : Bool := (List.range (E + 1)).all fun s => !(decide (0 < s) && decide (s % T = 0)) || decide (Rp.aft A C T (s - 1) = 0)
theorem okD_iff {A : Nat → Bool} {C : Nat → Nat} {T E : Nat} : okD A C T E = true ↔ Rp.okE A C T E := by
  unfold okD Rp.okE
  simp only [List.all_eq_true, List.mem_range, Bool.or_eq_true, Bool.not_eq_true', Bool.and_eq_false_iff, decide_eq_false_iff_not, decide_eq_true_eq]
  constructor
  · intro h s h0 h1 h2
    rcases h s (by omega) with h3 | h3
    · rcases h3 with h3 | h3 <;> omega
    · exact h3
  · intro h s hs
    by_cases h0 : 0 < s
    · by_cases h2 : s % T = 0
      · exact .inr (h s h0 (by omega) h2)
      · exact .inl (.inr h2)
    · exact .inl (.inl h0)
theorem ex3_0 : okD (lv exO exT (exC 3) 0) (fun _ => 1) 8 16 = true ∧ Rp.wrst (lv exO exT (exC 3) 0) (fun _ => 1) 8 16 = 1 := by decide +kernel
theorem ex3_1 : okD (lv exO exT (exC 3) 1) (fun _ => 3) 8 16 = true ∧ Rp.wrst (lv exO exT (exC 3) 1) (fun _ => 3) 8 16 = 6 := by decide +kernel
theorem ex4_1 : okD (lv exO exT (exC 4) 1) (fun _ => 4) 8 16 = false := by decide +kernel
theorem ex_tim : timF (svs [exP 3]) (svs [exP 3]).length = none := by decide +kernel
theorem ex_hyp : hyp (svs [exP 3]) = 4 := by decide +kernel
theorem exO_again {m : Nat} (h1 : 1 ≤ m) (h8 : 8 ∣ m) : Rp.again exO m := occ_again ex_tim 1 (by rw [ex_hyp]; exact Nat.dvd_trans (by decide) h8) h1
theorem ex_places {c : Int} {d : Array Wr} {f : Nat → Wr} {o : Nat → Bool} {E g s : Nat} {w w' : World} (h : Pyd o E 2 (exPs c) w w' g s d f) : (d[0]!).pl = 0 ∧ (d[1]!).pl = 1 := by
  have hinj : ∀ i j, i < (exPs c).length → j < (exPs c).length → prs (exPs c) i = prs (exPs c) j → i = j := by
    intro i j hi hj e
    have hi2 : i < 2 := hi
    have hj2 : j < 2 := hj
    match i, j, hi2, hj2 with
    | 0, 0, _, _ => rfl
    | 1, 1, _, _ => rfl
    | 0, 1, _, _ => exact absurd e (by show ¬ (9 : Int) = 5; decide)
    | 1, 0, _, _ => exact absurd e (by show ¬ (5 : Int) = 9; decide)
  have hp := places_perm h.pm
  have hs := places_sorted h.pm h.sr hinj
  have hz := h.sz
  have g0 := pl_get (xs := exPs c) (d := d) (k := 0) (by omega)
  have g1 := pl_get (xs := exPs c) (d := d) (k := 1) (by omega)
  have hl : (d.toList.map (·.pl)).length = 2 := by simp [hz]
  generalize d.toList.map (·.pl) = L at *
  match L, hl with
  | [a, b], _ =>
    have g0 : some a = some (d[0]!).pl := g0
    have g1 : some b = some (d[1]!).pl := g1
    injection g0 with g0
    injection g1 with g1
    rw [← g0, ← g1]
    have ha : a ∈ List.range 2 := hp.mem_iff.1 (by simp)
    have hb : b ∈ List.range 2 := hp.mem_iff.1 (by simp)
    have hab : prs (exPs c) b < prs (exPs c) a := by
      have := List.pairwise_cons.1 hs
      exact this.1 b (by simp)
    rw [List.mem_range] at ha hb
    match a, b, ha, hb with
    | 0, 1, _, _ => exact ⟨rfl, rfl⟩
    | 0, 0, _, _ => exact absurd hab (by show ¬ (9 : Int) < 9; decide)
    | 1, 1, _, _ => exact absurd hab (by show ¬ (5 : Int) < 5; decide)
    | 1, 0, _, _ => exact absurd hab (by show ¬ (9 : Int) < 5; decide)
theorem ex_levels {c : Nat} {d : Array Wr} {f : Nat → Wr} {m g s : Nat} {w w' : World} (h : Pyd exO (2 * m) 2 (exPs c) w w' g s d f) (h1 : 1 ≤ m) (h8 : 8 ∣ m) :
    (∀ j, j < 2 → (Rp.okE (lv exO (Td d) (Cd d) j) (fun _ => Cd d j) (Td d j) (2 * m) ↔ okD (lv exO exT (exC c) j) (fun _ => exC c j) 8 16 = true) ∧ Rp.wrst (lv exO (Td d) (Cd d) j) (fun _ => Cd d j) (Td d j) (2 * m) = Rp.wrst (lv exO exT (exC c) j) (fun _ => exC c j) 8 16) ∧ (f 0).pl = 0 ∧ (f 1).pl = 1 := by
  obtain ⟨p0, p1⟩ := ex_places h
  have hz := h.sz
  obtain ⟨t0, c0⟩ := td_at h.pm (k := 0) (by omega)
  obtain ⟨t1, c1⟩ := td_at h.pm (k := 1) (by omega)
  rw [p0] at t0 c0
  rw [p1] at t1 c1
  have T0 : Td d 0 = 8 := t0
  have C0 : Cd d 0 = 1 := c0
  have T1 : Td d 1 = 8 := t1
  have C1 : Cd d 1 = c := by rw [c1]; show (c : Int).toNat = c; omega
  have hTC : ∀ i, i < 2 → Td d i = exT i ∧ Cd d i = exC c i := fun i hi => by
    match i, hi with
    | 0, _ => exact ⟨T0, C0⟩
    | 1, _ => exact ⟨T1, C1⟩
  refine ⟨fun j hj => ?_, by rw [pyd_at h, p0], by rw [pyd_at h, p1]⟩
  have e := lv_congr (o := exO) (T := Td d) (C := Cd d) (T' := exT) (C' := exC c) j (fun i hi => hTC i (by omega))
  rw [e, (hTC j hj).1, (hTC j hj).2]
  have hm8 : m % 8 = 0 := Nat.mod_eq_zero_of_dvd h8
  rw [okD_iff]
  exact told_same (lv_again (exO_again h1 h8) h1 j (fun i hi => hm8)) (lv_again (exO_again (m := 8) (by decide) (by decide)) (by decide) j (fun i hi => rfl)) h1 (by decide) hm8 (Nat.mod_self 8)
theorem ex_inj {n : Nat} {f : Nat → Wr} (hn : n = 2) (h0 : (f 0).pl = 0) (h1 : (f 1).pl = 1) : ∀ a b, a < n → b < n → (f a).pl = (f b).pl → a = b := fun a b ha hb e => by
  subst hn
  match a, b, ha, hb with
  | 0, 0, _, _ => rfl
  | 1, 1, _, _ => rfl
  | 0, 1, _, _ => rw [h0, h1] at e; cases e
  | 1, 0, _, _ => rw [h0, h1] at e; cases e
theorem ex3_ws {d : Array Wr} {f : Nat → Wr} {m g s : Nat} {w w' : World} (h : Pyd exO (2 * m) 2 (exPs 3) w w' g s d f) (h1 : 1 ≤ m) (h8 : 8 ∣ m) : wsF d f s 0 = 1 ∧ wsF d f s 1 = 6 := by
  obtain ⟨hl, p0, p1⟩ := ex_levels (c := 3) h h1 h8
  obtain ⟨a0, b0⟩ := hl 0 (by decide)
  obtain ⟨a1, b1⟩ := hl 1 (by decide)
  have hs : s = 2 := by
    have hle := h.le
    apply Classical.byContradiction
    intro hn
    have hlt : s < 2 := by omega
    have hno := h.no hlt
    match s, hlt with
    | 0, _ => exact hno (a0.2 ex3_0.1)
    | 1, _ => exact hno (a1.2 ex3_1.1)
  subst hs
  have v0 := wsF_at (d := d) (ex_inj rfl p0 p1) (k := 0) (by decide) 2 (Nat.le_refl _)
  have v1 := wsF_at (d := d) (ex_inj rfl p0 p1) (k := 1) (by decide) 2 (Nat.le_refl _)
  rw [p0, if_pos (by decide), (h.yes 0 (by decide)).2, b0] at v0
  rw [p1, if_pos (by decide), (h.yes 1 (by decide)).2, b1] at v1
  rw [v0, v1]
  have e0 : Rp.wrst (lv exO exT (exC 3) 0) (fun _ => exC 3 0) 8 16 = 1 := ex3_0.2
  have e1 : Rp.wrst (lv exO exT (exC 3) 1) (fun _ => exC 3 1) 8 16 = 6 := ex3_1.2
  rw [e0, e1]
  exact ⟨rfl, rfl⟩
theorem ex4_ws {d : Array Wr} {f : Nat → Wr} {m g s : Nat} {w w' : World} (h : Pyd exO (2 * m) 2 (exPs 4) w w' g s d f) (h1 : 1 ≤ m) (h8 : 8 ∣ m) : wsF d f s 0 = 1 ∧ wsF d f s 1 = -1 := by
  obtain ⟨hl, p0, p1⟩ := ex_levels (c := 4) h h1 h8
  obtain ⟨a0, b0⟩ := hl 0 (by decide)
  obtain ⟨a1, b1⟩ := hl 1 (by decide)
  have hs : s = 1 := by
    have hle := h.le
    match s, hle with
    | 0, _ => exact absurd (a0.2 ex3_0.1) (h.no (by decide))
    | 1, _ => rfl
    | 2, _ =>
      have q := a1.1 (h.yes 1 (by decide)).1
      have q2 : okD (lv exO exT (exC 4) 1) (fun _ => 4) 8 16 = true := q
      rw [ex4_1] at q2
      cases q2
  subst hs
  have v0 := wsF_at (d := d) (ex_inj rfl p0 p1) (k := 0) (by decide) 1 (by decide)
  have v1 := wsF_at (d := d) (ex_inj rfl p0 p1) (k := 1) (by decide) 1 (by decide)
  rw [p0, if_pos (by decide), (h.yes 0 (by decide)).2, b0] at v0
  rw [p1, if_neg (by decide)] at v1
  rw [v0, v1]
  have e0 : Rp.wrst (lv exO exT (exC 4) 0) (fun _ => exC 4 0) 8 16 = 1 := ex3_0.2
  rw [e0]
  exact ⟨rfl, rfl⟩
end Go.Proofs.YtnmhcnppdhdhfaaGreatDoor
