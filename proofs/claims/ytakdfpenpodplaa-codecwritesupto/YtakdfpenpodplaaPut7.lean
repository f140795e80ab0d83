/-
  'put' of lists.
-/
import Derived.Test.YtakdfpenpodplaaPut6
namespace Go.Proofs.Ytakdfpenpodplaa
open Go.RowKit
set_option linter.unusedVariables false

theorem plStep_stop (s : List Nat × Int) (z : Int) (h : s.2 ≠ 0) : plStep s z = s := by
  unfold plStep numBs numE
  rw [if_pos h, if_pos h]
theorem plStep_all : ∀ (l : List Int) (s : List Nat × Int), s.2 ≠ 0 → l.foldl plStep s = s
  | [], s, h => rfl
  | z :: l, s, h => by rw [List.foldl_cons, plStep_stop s z h]; exact plStep_all l s h
/-- the document's way through a list -/
def ol0 (bs : List Nat) (e n most : Int) : List Nat × Int := if e ≠ 0 then (bs, e) else (ctBs bs e n most, ctE e n most)
theorem ol_pl (bs : List Nat) (e : Int) (zs : List Int) (most : Int) : zs.foldl plStep (ol0 bs e zs.length most) = pl bs e zs most := by
  unfold ol0 pl
  by_cases he : e = 0
  · subst he
    rw [if_neg (by simp), if_neg (by simp)]
    unfold ctBs ctE
    by_cases hm : most < zs.length
    · rw [if_pos hm, if_pos hm, if_pos hm, if_neg (by simp)]
      exact plStep_all zs _ (by simp)
    · rw [if_neg hm, if_neg hm, if_neg hm]
  · rw [if_pos he, if_pos he]
    exact plStep_all zs _ he
def olS (bs : List Nat) (e : Int) (zs : List Int) (most : Int) (j : Nat) : List Nat × Int := (zs.take j).foldl plStep (ol0 bs e zs.length most)
theorem olS_end (bs : List Nat) (e : Int) (zs : List Int) (most : Int) : olS bs e zs most zs.length = pl bs e zs most := by
  unfold olS; rw [List.take_length]; exact ol_pl bs e zs most
theorem olS_stop (bs : List Nat) (e : Int) (zs : List Int) (most : Int) (j : Nat) (h : (olS bs e zs most j).2 ≠ 0) : olS bs e zs most j = pl bs e zs most := by
  rw [← ol_pl, ← List.take_append_drop j zs, List.foldl_append]
  rw [List.take_append_drop]
  exact (plStep_all _ _ h).symm
theorem olS_next (bs : List Nat) (e : Int) (zs : List Int) (most : Int) (j : Nat) (h : j < zs.length) : olS bs e zs most (j + 1) = plStep (olS bs e zs most j) (zs.getD j 0) := by
  unfold olS
  rw [List.take_add_one, List.getElem?_eq_getElem h, List.foldl_append]
  simp [List.getD, h]
theorem olS_len (bs : List Nat) (e : Int) (zs : List Int) (most : Int) (j : Nat) : (olS bs e zs most j).1.length ≤ bs.length + 4 + 2 * j := by
  induction j with
  | zero =>
    unfold olS ol0 ctBs
    simp only [List.take_zero, List.foldl_nil]
    split
    · simp
    · simp only
      split
      · omega
      · have := numBs_len bs e (zs.length : Int) 4; omega
  | succ j ih =>
    by_cases h : j < zs.length
    · rw [olS_next bs e zs most j h]
      unfold plStep
      have := numBs_len (olS bs e zs most j).1 (olS bs e zs most j).2 (zs.getD j 0) 2
      simp only
      omega
    · have : olS bs e zs most (j + 1) = olS bs e zs most j := by unfold olS; rw [List.take_of_length_le (by omega), List.take_of_length_le (by omega)]
      rw [this]; omega

theorem bw_list {F G : Nat → Prop} {p q g : Nat} {bs bs' : List Nat} {e e' : Int} {w w0 w1 w2 w3 : World} (hW0 : Wr w F p bs e) (hO : Ou w G q bs e) (D : ∀ k, F k → ¬ G k) (k0 : Kept No w w0) (hg : w.heap.size ≤ g ∧ g < w0.heap.size) (hW : WrDid F p bs' e' w0 w1) (k2 : Kept (fun k => k = g) w1 w2) (hI : OuDid G q bs' e' w2 w3) : Bw F G p q bs' e' w w3 := by
  obtain ⟨F', hw, kw, fw⟩ := hW
  obtain ⟨G', ho, ko, fo⟩ := hI
  have hG := hO.flt
  have hF := hW0.flt'
  have s0 := k0.size
  have s1 := kw.size
  have s2 := k2.size
  have d1 : ∀ b, F' b → ¬ G b := by
    intro b hb hg
    rcases fw b hb with h | h
    · exact D b h hg
    · have := hG b hg; omega
  refine ⟨F', G', (hw.kept k2 (fun b hb h => ?_)).kept ko d1, ho, fun k h1 h2 => ?_, (((k0.mono (fun _ h => h.elim)).trans kw (fun k h => .inl (.inl h))).trans k2 (fun k h => .inr (by omega))).trans ko (fun k h => .inl (.inr h)), fun k h => (fw k h).elim .inl (fun h => .inr (by omega)), fun k h => (fo k h).elim .inl (fun h => .inr (by omega))⟩
  · rcases fw b hb with h2 | h2
    · have := hF b h2; omega
    · omega
  · rcases fo k h2 with h | h
    · exact d1 k h1 h
    · have := hw.flt' k h1; omega

set_option maxHeartbeats 4000000 in
set_option maxRecDepth 100000 in
theorem put7o (F G Gl : Nat → Prop) (p q : Nat) (bs : List Nat) (e N Wd : Int) (Fl : Bool) (ba : Option Addr) (bn bc : Nat) (la : Option Addr) (ln lc : Nat) (M : Int) (zs : List Int) (w : World) (hW : Wr w F p bs e) (hO : Ou w G q bs e) (D : ∀ k, F k → ¬ G k) (hsz : bs.length ≤ 1000000000)
    (hZ : Zs w Gl la ln lc zs) (hbF : ∀ k, Gl k → ¬ F k) (hbG : ∀ k, Gl k → ¬ G k) (hbl : ∀ k, Gl k → k < w.heap.size) (hzb : ∀ z ∈ zs, z ≤ 9223372036854775807) (hbn : ln ≤ 1000000000) :
    Calls Try.prog 43 #[.pointer (some ⟨p, 0, none⟩), .pointer (some ⟨q, 0, none⟩), opV 7 N Wd Fl ba bn bc la ln lc M] w fun ex w' => ex = .returned (.bool true) ∧ Bw F G p q (pl bs e zs M).1 (pl bs e zs M).2 w w' := by
  have HW : Hid (Wr w F p bs e) := hW
  have HO : Hid (Ou w G q bs e) := hO
  have HD : Hid (∀ k, F k → ¬ G k) := D
  have HZ : Hid (Zs w Gl la ln lc zs) := hZ
  have HBF : Hid ((∀ k, Gl k → ¬ F k) ∧ (∀ k, Gl k → ¬ G k) ∧ (∀ k, Gl k → k < w.heap.size)) := ⟨hbF, hbG, hbl⟩
  have HL : Hid (zs.length = ln) := hZ.len
  have HZB : Hid (∀ z ∈ zs, z ≤ 9223372036854775807) := hzb
  have HF : Hid (∀ k, F k → k < w.heap.size) := hW.flt'
  have HG : Hid (∀ k, G k → k < w.heap.size) := hO.flt
  have ka : Kept No w (w.alloc (opW 7 N Wd Fl ba bn bc la ln lc M)) := (Kept.refl No w).alloc _
  have c86 := lent_any Gl la ln lc zs _ (hZ.kept ka (fun _ _ h => h)) hbn
  have HQ : Hid (OpBlk (w.alloc (opW 7 N Wd Fl ba bn bc la ln lc M)) w.heap.size 7 N Wd Fl ba bn bc la ln lc M) := heap_alloc_new _ _
  have HS : Hid ((w.alloc (opW 7 N Wd Fl ba bn bc la ln lc M)).heap.size = w.heap.size + 1) := size_alloc _ _
  have HKA : Hid (Kept No w (w.alloc (opW 7 N Wd Fl ba bn bc la ln lc M))) := ka
  have hlc := hZ.cap
  have hlm := hZ.max
  obtain ⟨X, hX⟩ : ∃ X, X = (pl bs e zs M).1 := ⟨_, rfl⟩
  obtain ⟨E, hE⟩ : ∃ E, E = (pl bs e zs M).2 := ⟨_, rfl⟩
  have HXE : Hid (X = (pl bs e zs M).1 ∧ E = (pl bs e zs M).2) := ⟨hX, hE⟩
  rw [← hX, ← hE]
  clear hW hO D hZ hbF hbG hzb hbl ka hX hE
  unfold opV
  go_enter Try.func43, Try.ntmps43
  go_upto_region 24 with (go_at_call 86; refine c86.mono ?_; rintro ex w1 ⟨g1, cap1, rfl, own1, bel1⟩)
  clear c86
  generalize w.alloc (opW 7 N Wd Fl ba bn bc la ln lc M) = W0 at HQ HS HKA own1 bel1
  have HK1 : Hid (Kept No w w1) := HKA.out.trans (Kept.of_below (F := No) bel1) (fun _ h => h.elim)
  have O1 : Hid (w1.ownsRow W0.heap.size 3 1 (.slice (some ⟨g1, 0, none⟩) (ln + 1) cap1) (ln + 1) ((zs ++ [-77]).map iv)) := own1
  have HG1 : Hid (W0.heap.size ≤ g1 ∧ g1 < w1.heap.size) := own1.lt g1 rfl
  have hq1 : OpBlk w1 w.heap.size 7 N Wd Fl ba bn bc la ln lc M := (Kept.of_below (F := No) bel1).at' HQ.out (fun h => h)
  have HQ1 : Hid (OpBlk w1 w.heap.size 7 N Wd Fl ba bn bc la ln lc M) := hq1
  have c62 := putList87_any F _ p bs e _ ln cap1 zs M w1 (HW.out.kept HK1.out (fun _ _ h => h)) (lent_zs own1 HL.out) (fun k h hf => by have := HF.out k hf; have := HG1.out.1; have := HS.out; omega) HZB.out (by omega)
  obtain ⟨o0, o1, o2, o3, o4, o5, o6⟩ := hq1.at'
  rw [← HXE.out.1, ← HXE.out.2] at c62
  clear own1 bel1 HQ HKA hq1
  go_upto_region 25 with (go_at_call 62; refine c62.mono ?_; rintro ex w2 ⟨rfl, hd2⟩)
  clear c62 o0 o1 o2 o3 o4 o5 o6
  have HD2 : Hid (WrDid F p X E w1 w2) := hd2
  have hk2 : Kept F w1 w2 := by obtain ⟨F', _, kw, _⟩ := hd2; exact kw
  have hq2 : OpBlk w2 w.heap.size 7 N Wd Fl ba bn bc la ln lc M := hk2.at' HQ1.out (fun h => by have := HF.out _ h; omega)
  have HQ2 : Hid (OpBlk w2 w.heap.size 7 N Wd Fl ba bn bc la ln lc M) := hq2
  have HZ2 : Hid (Zs w2 Gl la ln lc zs) := (HZ.out.kept HK1.out (fun _ _ h => h)).kept hk2 HBF.out.1
  have HO2 : Hid (Ou w2 G q bs e) := (HO.out.kept HK1.out (fun _ _ h => h)).wr HD.out hd2
  have c88 := stood_any Gl W0.heap.size g1 ln cap1 la lc zs w2 HZ2.out (hk2.owns O1.out (fun k h h2 => by have := (O1.out.lt k h).1; have := HF.out k h2; have := HS.out; omega)) hbn
  obtain ⟨o0, o1, o2, o3, o4, o5, o6⟩ := hq2.at'
  clear hd2 hk2 hq2
  go_upto_region 27 with (go_at_call 88; refine c88.mono ?_; rintro ex w3 ⟨rfl, kp3⟩)
  clear c88 o0 o1 o2 o3 o4 o5 o6
  have HK3 : Hid (Kept (fun k => k = g1) w2 w3) := kp3
  have hq3 : OpBlk w3 w.heap.size 7 N Wd Fl ba bn bc la ln lc M := kp3.at' HQ2.out (fun h => by have := HG1.out.1; have := HS.out; omega)
  have HQ3 : Hid (OpBlk w3 w.heap.size 7 N Wd Fl ba bn bc la ln lc M) := hq3
  have HZ3 : Hid (Zs w3 Gl la ln lc zs) := HZ2.out.kept kp3 (fun k h h2 => by have := HBF.out.2.2 k h; have := HG1.out.1; have := HS.out; omega)
  have hO3 : Ou w3 G q bs e := HO2.out.kept kp3 (fun k h h2 => by have := HG.out k h; have := HG1.out.1; have := HS.out; omega)
  have HO3 : Hid (Ou w3 G q bs e) := hO3
  obtain ⟨o0, o1, o2, o3, o4, o5, o6⟩ := hq3.at'
  obtain ⟨v3, hv3⟩ := hO3
  have d1 := hv3.c1
  clear kp3 hq3 hv3 HO2 HZ2 HQ2 HQ1
  by_cases he : e = 0
  · have c89 := countOut_any G q bs e ln M w3 HO3.out (by omega) (by omega)
    have HST0 : Hid (∀ w4, OuDid G q (ctBs bs e ln M) (ctE e ln M) w3 w4 → OuDid G q (olS bs e zs M 0).1 (olS bs e zs M 0).2 w3 w4) := fun w4 h => by
      unfold olS ol0
      rw [List.take_zero, List.foldl_nil, if_neg (by simpa using he), HL.out]
      exact h
    subst he
    go_upto_region 30 with (go_at_call 89; refine c89.mono ?_; rintro ex w4 ⟨rfl, hd4⟩)
    have HST : Hid (OuDid G q (olS bs 0 zs M 0).1 (olS bs 0 zs M 0).2 w3 w4) := HST0.out w4 hd4
    clear c89 hd4 HST0 d1 o0 o1 o2 o3 o4 o5 o6
    go_loopw [9] (fun i wr => ∃ j : Nat, j ≤ ln ∧ i = .int .i64 j ∧ OuDid G q (olS bs 0 zs M j).1 (olS bs 0 zs M j).2 w3 wr) (fun i _ => ln - (intOf i).toNat)
    case atStart => exact ⟨0, by omega, rfl, HST.out⟩
    case round =>
      obtain ⟨j, hj, rfl, G', ho, kw, fw⟩ := hrel
      have HFIN : Hid (olS bs 0 zs M j = pl bs 0 zs M → Bw F G p q X E w wr) := fun h => by
        rw [HXE.out.1, HXE.out.2, ← h]
        have h2 := HD2.out
        rw [HXE.out.1, HXE.out.2, ← h] at h2
        exact bw_list HW.out HO.out HD.out HK1.out ⟨by have := HG1.out.1; have := HS.out; omega, HG1.out.2⟩ h2 HK3.out ⟨G', ho, kw, fw⟩
      have hqr : OpBlk wr w.heap.size 7 N Wd Fl ba bn bc la ln lc M := kw.at' HQ3.out (fun h => by have := HG.out _ h; omega)
      obtain ⟨o0, o1, o2, o3, o4, o5, o6⟩ := hqr.at'
      have HZR : Hid (Zs wr Gl la ln lc zs) := HZ3.out.kept kw HBF.out.2.1
      have HKW : Hid (Kept G w3 wr ∧ ∀ k, G' k → G k ∨ w3.heap.size ≤ k) := ⟨kw, fw⟩
      have HLN : Hid ((olS bs 0 zs M j).1.length ≤ bs.length + 4 + 2 * j) := olS_len bs 0 zs M j
      obtain ⟨v, hv⟩ := ho
      obtain ⟨S, hS⟩ : ∃ S, S = olS bs 0 zs M j := ⟨_, rfl⟩
      rw [← hS] at hv
      have HSS : Hid (S = olS bs 0 zs M j) := hS
      obtain ⟨S1, S2⟩ := S
      have d1 := hv.c1
      have HVR : Hid (OuV wr G' q v S1 S2) := hv
      clear kw fw hqr hS hv
      by_cases hlt : j < ln
      · by_cases hs : S2 = 0
        · subst hs
          obtain ⟨b, o, rfl, _, hcell⟩ := HZR.out.at' j hlt
          obtain ⟨z, hz⟩ : ∃ z, z = zs.getD j 0 := ⟨_, rfl⟩
          rw [← hz] at hcell
          unfold iv at hcell
          have HZJ : Hid (z = zs.getD j 0) := hz
          have c81 := u16Out_any G' q S1 0 z wr ⟨v, HVR.out⟩ (by have := HLN.out; rw [← HSS.out] at this; simp only at this; omega) (by rw [hz]; exact HZB.out _ (by have hjl : j < zs.length := (by rw [HL.out]; exact hlt); simp [List.getD, hjl]))
          clear hz
          go_wp2_with (go_at_call 81; refine c81.mono ?_; rintro ex w5 ⟨rfl, hd5⟩)
          go_roundw
          case rel =>
            refine ⟨j + 1, by omega, by go_num, ?_⟩
            rw [olS_next bs 0 zs M j (by rw [HL.out]; exact hlt), ← HSS.out, ← HZJ.out]
            obtain ⟨G5, h5, k5, f5⟩ := hd5
            exact ⟨G5, h5, Went.trans HKW.out ⟨k5, f5⟩⟩
          case measure => simp [intOf]; omega
        · have t0 : (S2 == 0) = false := by simpa using hs
          have HE2 : Hid (olS bs 0 zs M j = pl bs 0 zs M) := olS_stop bs 0 zs M j (by rw [← HSS.out]; exact hs)
          clear hs
          go_wp2
          go_ret
          exact ⟨rfl, HFIN.out HE2.out⟩
      · have HE2 : Hid (olS bs 0 zs M j = pl bs 0 zs M) := by
          have hjl : j = zs.length := by rw [HL.out]; omega
          rw [hjl]; exact olS_end bs 0 zs M
        go_wp2
        go_ret
        exact ⟨rfl, HFIN.out HE2.out⟩
  · have t0 : (e == 0) = false := by simpa using he
    have HST : Hid (OuDid G q (olS bs e zs M 0).1 (olS bs e zs M 0).2 w3 w3) := by
      show OuDid G q (olS bs e zs M 0).1 (olS bs e zs M 0).2 w3 w3
      unfold olS ol0
      rw [List.take_zero, List.foldl_nil, if_pos he]
      exact ⟨G, HO3.out, Went.refl _ _⟩
    clear he
    go_upto_region 30 with fail
    clear d1 o0 o1 o2 o3 o4 o5 o6 t0
    go_loopw [9] (fun i wr => ∃ j : Nat, j ≤ ln ∧ i = .int .i64 j ∧ OuDid G q (olS bs e zs M j).1 (olS bs e zs M j).2 w3 wr) (fun i _ => ln - (intOf i).toNat)
    case atStart => exact ⟨0, by omega, rfl, HST.out⟩
    case round =>
      obtain ⟨j, hj, rfl, G', ho, kw, fw⟩ := hrel
      have HFIN : Hid (olS bs e zs M j = pl bs e zs M → Bw F G p q X E w wr) := fun h => by
        rw [HXE.out.1, HXE.out.2, ← h]
        have h2 := HD2.out
        rw [HXE.out.1, HXE.out.2, ← h] at h2
        exact bw_list HW.out HO.out HD.out HK1.out ⟨by have := HG1.out.1; have := HS.out; omega, HG1.out.2⟩ h2 HK3.out ⟨G', ho, kw, fw⟩
      have hqr : OpBlk wr w.heap.size 7 N Wd Fl ba bn bc la ln lc M := kw.at' HQ3.out (fun h => by have := HG.out _ h; omega)
      obtain ⟨o0, o1, o2, o3, o4, o5, o6⟩ := hqr.at'
      have HZR : Hid (Zs wr Gl la ln lc zs) := HZ3.out.kept kw HBF.out.2.1
      have HKW : Hid (Kept G w3 wr ∧ ∀ k, G' k → G k ∨ w3.heap.size ≤ k) := ⟨kw, fw⟩
      have HLN : Hid ((olS bs e zs M j).1.length ≤ bs.length + 4 + 2 * j) := olS_len bs e zs M j
      obtain ⟨v, hv⟩ := ho
      obtain ⟨S, hS⟩ : ∃ S, S = olS bs e zs M j := ⟨_, rfl⟩
      rw [← hS] at hv
      have HSS : Hid (S = olS bs e zs M j) := hS
      obtain ⟨S1, S2⟩ := S
      have d1 := hv.c1
      have HVR : Hid (OuV wr G' q v S1 S2) := hv
      clear kw fw hqr hS hv
      by_cases hlt : j < ln
      · by_cases hs : S2 = 0
        · subst hs
          obtain ⟨b, o, rfl, _, hcell⟩ := HZR.out.at' j hlt
          obtain ⟨z, hz⟩ : ∃ z, z = zs.getD j 0 := ⟨_, rfl⟩
          rw [← hz] at hcell
          unfold iv at hcell
          have HZJ : Hid (z = zs.getD j 0) := hz
          have c81 := u16Out_any G' q S1 0 z wr ⟨v, HVR.out⟩ (by have := HLN.out; rw [← HSS.out] at this; simp only at this; omega) (by rw [hz]; exact HZB.out _ (by have hjl : j < zs.length := (by rw [HL.out]; exact hlt); simp [List.getD, hjl]))
          clear hz
          go_wp2_with (go_at_call 81; refine c81.mono ?_; rintro ex w5 ⟨rfl, hd5⟩)
          go_roundw
          case rel =>
            refine ⟨j + 1, by omega, by go_num, ?_⟩
            rw [olS_next bs e zs M j (by rw [HL.out]; exact hlt), ← HSS.out, ← HZJ.out]
            obtain ⟨G5, h5, k5, f5⟩ := hd5
            exact ⟨G5, h5, Went.trans HKW.out ⟨k5, f5⟩⟩
          case measure => simp [intOf]; omega
        · have t0 : (S2 == 0) = false := by simpa using hs
          have HE2 : Hid (olS bs e zs M j = pl bs e zs M) := olS_stop bs e zs M j (by rw [← HSS.out]; exact hs)
          clear hs
          go_wp2
          go_ret
          exact ⟨rfl, HFIN.out HE2.out⟩
      · have HE2 : Hid (olS bs e zs M j = pl bs e zs M) := by
          have hjl : j = zs.length := by rw [HL.out]; omega
          rw [hjl]; exact olS_end bs e zs M
        go_wp2
        go_ret
        exact ⟨rfl, HFIN.out HE2.out⟩

end Go.Proofs.Ytakdfpenpodplaa
