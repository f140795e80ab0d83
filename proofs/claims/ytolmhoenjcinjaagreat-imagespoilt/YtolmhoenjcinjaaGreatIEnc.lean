/-
  putParts, putPorts, putChannels; Encode.
-/
import Derived.Test.YtolmhoenjcinjaaGreatIPutPn
import Derived.Test.YtolmhoenjcinjaaGreatIPuts
import Derived.Test.YtolmhoenjcinjaaGreatIPutCh
namespace Go.Proofs.YtolmhoenjcinjaaGreat
open Go.RowKit
set_option linter.unusedVariables false
set_option maxRecDepth 100000

theorem st_etaEn (s : St) : (s.1, s.2) = s := rfl
set_option maxHeartbeats 1000000 in
theorem puts_Pn (F G : Nat → Prop) (p : Nat) (bs : List Nat) (e : Int) (a : Option Addr) (n c : Nat) (xs : List Pn) (w : World) (h : Wr w F p bs e) (hZ : Ls 21 elPn w G a n c xs) (hGF : ∀ k, G k → ¬ F k ∧ k < w.heap.size) (hsz : bs.length ≤ 5000000000) :
    Calls Tryz.prog 22 #[.pointer (some ⟨p, 0, none⟩), .slice a n c] w fun ex w' => ex = .returned (.tuple #[]) ∧ WrDid F p (wp tlPn (bs, e) xs).1 (wp tlPn (bs, e) xs).2 w w' := by
  have cc := put_Pn F G p bs e a n c xs w h hZ hGF hsz
  clear h hZ hGF
  go_enter Tryz.func22, Tryz.ntmps22
  go_wp2_with (go_at_call 40; refine cc.mono ?_; rintro ex w1 ⟨rfl, hd⟩)
  go_end0
  exact ⟨rfl, hd⟩

set_option maxHeartbeats 1000000 in
theorem puts_Po (F G : Nat → Prop) (p : Nat) (bs : List Nat) (e : Int) (a : Option Addr) (n c : Nat) (xs : List Po) (w : World) (h : Wr w F p bs e) (hZ : Ls 6 elPo w G a n c xs) (hGF : ∀ k, G k → ¬ F k ∧ k < w.heap.size) (hsz : bs.length ≤ 100000000000) :
    Calls Tryz.prog 23 #[.pointer (some ⟨p, 0, none⟩), .slice a n c] w fun ex w' => ex = .returned (.tuple #[]) ∧ WrDid F p (wp tlPo (bs, e) xs).1 (wp tlPo (bs, e) xs).2 w w' := by
  have cc := put_Po F G p bs e a n c xs w h hZ hGF hsz
  clear h hZ hGF
  go_enter Tryz.func23, Tryz.ntmps23
  go_wp2_with (go_at_call 51; refine cc.mono ?_; rintro ex w1 ⟨rfl, hd⟩)
  go_end0
  exact ⟨rfl, hd⟩

set_option maxHeartbeats 1000000 in
theorem puts_Ch (F G : Nat → Prop) (p : Nat) (bs : List Nat) (e : Int) (a : Option Addr) (n c : Nat) (xs : List Ch) (w : World) (h : Wr w F p bs e) (hZ : Ls 5 elCh w G a n c xs) (hGF : ∀ k, G k → ¬ F k ∧ k < w.heap.size) (hsz : bs.length ≤ 5000000000) :
    Calls Tryz.prog 24 #[.pointer (some ⟨p, 0, none⟩), .slice a n c] w fun ex w' => ex = .returned (.tuple #[]) ∧ WrDid F p (wp tlCh (bs, e) xs).1 (wp tlCh (bs, e) xs).2 w w' := by
  have cc := put_Ch F G p bs e a n c xs w h hZ hGF hsz
  clear h hZ hGF
  go_enter Tryz.func24, Tryz.ntmps24
  go_wp2_with (go_at_call 53; refine cc.mono ?_; rintro ex w1 ⟨rfl, hd⟩)
  go_end0
  exact ⟨rfl, hd⟩

theorem sealed_len1 (x : Im) : (sealed 1 (encIm x)).length = (encIm x).length + 12 := sealed_length 1 _
set_option maxHeartbeats 4000000 in
theorem encode_img (G : Nat → Prop) (a0 : Option Addr) (n0 c0 : Nat) (a1 : Option Addr) (n1 c1 : Nat) (a2 : Option Addr) (n2 c2 : Nat) (x : Im) (w : World) (hI : Img w G a0 n0 c0 a1 n1 c1 a2 n2 c2 x) (hG : ∀ k, G k → k < w.heap.size) :
    Calls Tryz.prog 8 #[.agg #[.slice a0 n0 c0, .slice a1 n1 c1, .slice a2 n2 c2]] w fun ex w' => ∃ a n c, ex = .returned (.tuple #[.slice a n c, .int .i64 (encE x)]) ∧ w'.ownsRow w.heap.size 5 1 (.slice a n c) (encX x).length ((encX x).map bv) ∧ Kept No w w' := by
  have HI : Hid (Img w G a0 n0 c0 a1 n1 c1 a2 n2 c2 x) := hI
  have HG : Hid (∀ k, G k → k < w.heap.size) := hG
  obtain ⟨v0, hv0⟩ : ∃ v0 : Obj, v0 = .cells #[.slice a0 n0 c0, .slice a1 n1 c1, .slice a2 n2 c2] 26 := ⟨_, rfl⟩
  have HK0 : Hid (Kept No w (w.alloc (.cells #[.slice a0 n0 c0, .slice a1 n1 c1, .slice a2 n2 c2] 26))) := (Kept.refl No w).alloc _
  have HB : Hid ((w.alloc (.cells #[.slice a0 n0 c0, .slice a1 n1 c1, .slice a2 n2 c2] 26)).heap[w.heap.size]? = some (.cells #[.slice a0 n0 c0, .slice a1 n1 c1, .slice a2 n2 c2] 26 (0, 0))) := heap_alloc_new w _
  have hwhole := whole x
  have hqq : tlIm ([], 0) x = wp tlCh (wp tlPo (wp tlPn ([], 0) x.parts) x.ports) x.chans := rfl
  have hfew := tIm.few ([], 0) x
  have f1 := (tPn.list (Nat.le_refl _) dcPn.pos).few ([], 0) x.parts
  have hokx := hI.ok
  obtain ⟨EX, hEX⟩ : ∃ EX, EX = encX x := ⟨_, rfl⟩
  obtain ⟨EE, hEE⟩ : ∃ EE, EE = encE x := ⟨_, rfl⟩
  rw [← hEX, ← hEE]
  have HEX : Hid (EX = encX x ∧ EE = encE x) := ⟨hEX, hEE⟩
  clear hI hG hv0 hEX hEE
  go_enter Tryz.func8, Tryz.ntmps8
  go_upto_region 1 with fail
  generalize hW0 : w.alloc (.cells #[.slice a0 n0 c0, .slice a1 n1 c1, .slice a2 n2 c2] 26) = w0 at *
  have cN := newWriter_any w0
  have hws := ws_new w0
  have HS0 : Hid (WS w0 w0.heap.size [] 0 (w0.alloc (.cells #[.slice none 0 0, .int .i64 0] 89))) := hws
  clear hws
  go_upto_region 2 with (go_at_call 21; refine cN.mono ?_; rintro ex w1 ⟨rfl, rfl⟩)
  clear cN
  generalize w0.alloc (.cells #[.slice none 0 0, .int .i64 0] 89) = w1 at *
  obtain ⟨p, hp⟩ : ∃ p, p = w0.heap.size := ⟨_, rfl⟩
  rw [← hp] at HS0 ⊢
  have HP : Hid (p = w0.heap.size) := hp
  clear hp
  -- what holds in every world from here on
  have IMG : ∀ (s : St) (v : World), WS w0 p s.1 s.2 v → v.heap[w.heap.size]? = some (.cells #[.slice a0 n0 c0, .slice a1 n1 c1, .slice a2 n2 c2] 26 (0, 0)) ∧ ∃ F, Wr v F p s.1 s.2 ∧ (∀ k, F k → w0.heap.size ≤ k) ∧ Below w0.heap.size w0 v ∧ Img v G a0 n0 c0 a1 n1 c1 a2 n2 c2 x ∧ ∀ k, G k → ¬ F k ∧ k < v.heap.size := by
    intro s v hs
    obtain ⟨F, h1, h2, h3⟩ := hs
    have kk : Kept No w0 v := Kept.of_below h3
    refine ⟨kk.at' HB.out (fun h => h), F, h1, h2, h3, (HI.out.kept HK0.out (fun _ _ h => h)).kept kk (fun _ _ h => h), fun k hk => ?_⟩
    have q1 := HG.out k hk
    have q2 := HK0.out.size
    have q3 := h3.size
    exact ⟨fun hf => by have := h2 k hf; omega, by omega⟩
  have HIMG : Hid (∀ (s : St) (v : World), WS w0 p s.1 s.2 v → v.heap[w.heap.size]? = some (.cells #[.slice a0 n0 c0, .slice a1 n1 c1, .slice a2 n2 c2] 26 (0, 0)) ∧ ∃ F, Wr v F p s.1 s.2 ∧ (∀ k, F k → w0.heap.size ≤ k) ∧ Below w0.heap.size w0 v ∧ Img v G a0 n0 c0 a1 n1 c1 a2 n2 c2 x ∧ ∀ k, G k → ¬ F k ∧ k < v.heap.size) := IMG
  clear IMG
  -- the partitions
  obtain ⟨hb1, F1, wr1, hF1, hbl1, img1, hg1⟩ := HIMG.out ([], 0) w1 HS0.out
  have r1 : w1.cell? ⟨w.heap.size, 0, none⟩ = some (.slice a0 n0 c0) := by simp [World.cell?, hb1]
  have cp := puts_Pn F1 G p [] 0 a0 n0 c0 x.parts w1 wr1 img1.ps hg1 (by simp)
  obtain ⟨s1, hs1⟩ : ∃ s1, s1 = wp tlPn ([], 0) x.parts := ⟨_, rfl⟩
  rw [← hs1] at cp hqq f1
  have HF1 : Hid ((∀ k, F1 k → w0.heap.size ≤ k) ∧ Below w0.heap.size w0 w1) := ⟨hF1, hbl1⟩
  clear hb1 wr1 hF1 hbl1 img1 hg1 hs1 HS0
  go_upto_region 3 with (go_at_call 22; refine cp.mono ?_; rintro ex w2 ⟨rfl, hd1⟩)
  have HS1 : Hid (WS w0 p s1.1 s1.2 w2) := WS.of HF1.out.1 HF1.out.2 hd1
  clear hd1 cp r1
  -- the ports
  obtain ⟨hb1, F2, wr1, hF1, hbl1, img1, hg1⟩ := HIMG.out s1 w2 HS1.out
  have r1 : w2.cell? ⟨w.heap.size, 1, none⟩ = some (.slice a1 n1 c1) := by simp [World.cell?, hb1]
  have cp := puts_Po F2 G p s1.1 s1.2 a1 n1 c1 x.ports w2 wr1 img1.qs hg1 (by simp only [List.length_nil] at f1; omega)
  have f2 := (tfPo.list).few s1 x.ports
  rw [st_etaEn] at cp
  obtain ⟨s2, hs2⟩ : ∃ s2, s2 = wp tlPo s1 x.ports := ⟨_, rfl⟩
  rw [← hs2] at cp hqq f2
  have HF2 : Hid ((∀ k, F2 k → w0.heap.size ≤ k) ∧ Below w0.heap.size w0 w2) := ⟨hF1, hbl1⟩
  clear hb1 wr1 hF1 hbl1 img1 hg1 hs2 HS1
  go_upto_region 4 with (go_at_call 23; refine cp.mono ?_; rintro ex w3 ⟨rfl, hd1⟩)
  have HS2 : Hid (WS w0 p s2.1 s2.2 w3) := WS.of HF2.out.1 HF2.out.2 hd1
  clear hd1 cp r1
  -- the channels
  obtain ⟨hb1, F3, wr1, hF1, hbl1, img1, hg1⟩ := HIMG.out s2 w3 HS2.out
  have r1 : w3.cell? ⟨w.heap.size, 2, none⟩ = some (.slice a2 n2 c2) := by simp [World.cell?, hb1]
  have cp := puts_Ch F3 G p s2.1 s2.2 a2 n2 c2 x.chans w3 wr1 img1.cs hg1 (by simp only [List.length_nil] at f1; omega)
  rw [st_etaEn] at cp
  obtain ⟨s3, hs3⟩ : ∃ s3, s3 = wp tlCh s2 x.chans := ⟨_, rfl⟩
  rw [← hs3] at cp hqq
  rw [hqq] at hwhole hfew
  have HF3 : Hid ((∀ k, F3 k → w0.heap.size ≤ k) ∧ Below w0.heap.size w0 w3) := ⟨hF1, hbl1⟩
  clear hb1 wr1 hF1 hbl1 img1 hg1 hs3 HS2 f1 f2 hqq
  go_upto_region 5 with (go_at_call 24; refine cp.mono ?_; rintro ex w4 ⟨rfl, hd1⟩)
  have HS3 : Hid (WS w0 p s3.1 s3.2 w4) := WS.of HF3.out.1 HF3.out.2 hd1
  clear hd1 cp r1
  -- all
  obtain ⟨hb1, F4, wr1, hF1, hbl1, img1, hg1⟩ := HIMG.out s3 w4 HS3.out
  obtain ⟨sb, se⟩ := s3
  dsimp only at wr1 hwhole hfew
  simp only [List.length_nil] at hfew
  have cd := done_any F4 p sb se w4 wr1 (by omega)
  have hwl := WS.lt HS3.out
  have HWH : Hid ((sb, se) = (encIm x, 0) ∨ (se ≠ 0 ∧ encOk x = false)) := hwhole
  have HF4 : Hid ((∀ k, F4 k → w0.heap.size ≤ k) ∧ Below w0.heap.size w0 w4) := ⟨hF1, hbl1⟩
  have HWL : Hid (∀ b ∈ sb, b < 256) := hwl
  have hel := dcIm.lt x hokx
  have HEL : Hid (∀ b ∈ encIm x, b < 256) := hel
  clear hb1 wr1 hF1 hbl1 img1 hg1 HS3 hfew hwl hwhole hel hokx
  have KEND : ∀ v, Kept F4 w4 v → Kept No w v := fun v hv => HK0.out.trans ((Kept.of_below (F := No) HF4.out.2).trans hv (fun k hk => .inr (HF4.out.1 k hk))) (fun _ h => h.elim)
  have HKE : Hid (∀ v, Kept F4 w4 v → Kept No w v) := KEND
  clear KEND
  have hsz0 := HK0.out.size
  have hsz4 := HF4.out.2.size
  have HSZ : Hid (w.heap.size ≤ w4.heap.size) := Nat.le_trans hsz0 hsz4
  clear hsz0 hsz4
  by_cases hse : se = 0
  · subst hse
    have hb : sb = encIm x := by
      rcases HWH.out with h1 | h1
      · exact (Prod.mk.injEq _ _ _ _ ▸ h1).1
      · exact absurd rfl h1.1
    subst hb
    rw [if_pos rfl] at cd
    go_upto_region 6 with (go_at_call 25; refine cd.mono ?_; rintro ex w5 ⟨da, dn, dc, rfl, hwr5, hk5, hown5⟩)
    obtain ⟨da', dc', hsl, hbs⟩ := Bs.of_owns hown5 HEL.out
    have hdn : dn = (encIm x).length := by injection hsl
    obtain ⟨rfl, rfl⟩ : da = da' ∧ dc = dc' := by injection hsl with h1 h2 h3; exact ⟨h1, h3⟩
    subst hdn
    have cs := seal_any _ 1 da _ dc _ w5 (by decide) hbs
    have HK5 : Hid (Kept F4 w4 w5) := hk5
    clear hwr5 hown5 hbs hsl hk5 cd
    obtain ⟨ex', hex⟩ : ∃ X, X = sealX 1 (encIm x) := ⟨_, rfl⟩
    rw [← hex] at cs
    obtain ⟨ee', hee⟩ : ∃ X, X = sealE (encIm x) := ⟨_, rfl⟩
    rw [← hee] at cs
    cases hok : encOk x with
    | true =>
      have hle : (encIm x).length + 12 ≤ 1048576 := by unfold encOk at hok; simpa using hok
      have e1 : encX x = sealed 1 (encIm x) := by unfold encX; rw [hok]; rfl
      have e2 : encE x = 0 := by unfold encE; rw [hok]; rfl
      have e3 : ex' = sealed 1 (encIm x) := by rw [hex]; unfold sealX; rw [if_neg (by omega)]
      have e4 : ee' = 0 := by rw [hee]; unfold sealE; rw [if_neg (by omega)]
      have hsl := sealed_len1 x
      subst e4
      have HQ : Hid (EX = ex' ∧ EE = 0) := ⟨HEX.out.1.trans (e1.trans e3.symm), HEX.out.2.trans e2⟩
      rw [← e3] at hsl
      have hexl : ex'.length ≤ 1048576 := by omega
      clear e1 e2 e3 hex hee hsl hok
      obtain ⟨el, hel⟩ : ∃ el, ex'.length = el := ⟨_, rfl⟩
      rw [hel] at cs hexl
      have HEL2 : Hid (ex'.length = el) := hel
      have hgt : ¬ ((1048576 : Int) < (el : Int)) := by omega
      clear hel
      obtain ⟨el0, hel0⟩ : ∃ q, q = (encIm x).length := ⟨_, rfl⟩
      rw [← hel0] at cs ⊢
      clear hel0 hle
      go_upto_region 9 with (go_at_call 26; refine cs.mono ?_; rintro ex w6 ⟨ta, tn, tc, rfl, hown6, hbl6⟩)
      have htn : tn = el := by
        rcases owns_cells hown6 with ⟨h1, h2⟩ | ⟨g, cap, h1, _⟩
        · injection h1 with h3 h4 h5; omega
        · injection h1
      subst htn
      have HO6 : Hid (w6.ownsRow w5.heap.size 5 1 (.slice ta tn tc) tn (ex'.map bv) ∧ Below w5.heap.size w5 w6) := ⟨hown6, hbl6⟩
      clear hown6 hbl6 cs
      go_wp2
      go_ret2
      rw [HQ.out.1, HQ.out.2, HEL2.out]
      refine ⟨ta, tn, tc, rfl, owns_base HO6.out.1 (Nat.le_trans HSZ.out HK5.out.size), (HKE.out w5 HK5.out).trans (Kept.of_below (F := No) HO6.out.2) (fun _ h => h.elim)⟩
    | false =>
      have hle : ¬ ((encIm x).length + 12 ≤ 1048576) := by unfold encOk at hok; simpa using hok
      have e1 : encX x = [] := by unfold encX; rw [hok]; rfl
      have e2 : encE x = 1 := by unfold encE; rw [hok]; rfl
      have hlong : ee' ≠ 0 ∨ 1048576 < ex'.length := by
        by_cases h : 4194304 < (encIm x).length
        · left; rw [hee]; unfold sealE; rw [if_pos h]; decide
        · right; rw [hex]; unfold sealX; rw [if_neg h, sealed_len1]; omega
      have HQ : Hid (EX = [] ∧ EE = 1) := ⟨HEX.out.1.trans e1, HEX.out.2.trans e2⟩
      have hz1 : ee' ≠ 0 → ee' = 1 := by
        rw [hee]; unfold sealE; split
        · intro _; rfl
        · intro h; exact absurd rfl h
      clear e1 e2 hex hee hok hle
      obtain ⟨el0, hel0⟩ : ∃ q, q = (encIm x).length := ⟨_, rfl⟩
      rw [← hel0] at cs ⊢
      clear hel0
      obtain ⟨el, hel⟩ : ∃ el, ex'.length = el := ⟨_, rfl⟩
      rw [hel] at cs hlong
      clear hel
      by_cases hz : ee' = 0
      · subst hz
        clear hz1
        have hgt : ((1048576 : Int) < (el : Int)) := by rcases hlong with h | h; exact absurd rfl h; omega
        clear hlong
        go_upto_region 9 with (go_at_call 26; refine cs.mono ?_; rintro ex w6 ⟨ta, tn, tc, rfl, hown6, hbl6⟩)
        have htn : tn = el := by
          rcases owns_cells hown6 with ⟨h1, h2⟩ | ⟨g, cap, h1, _⟩
          · injection h1 with h3 h4 h5; omega
          · injection h1
        subst htn
        have HO6 : Hid (Below w5.heap.size w5 w6) := hbl6
        clear hown6 hbl6 cs
        go_wp2
        go_ret2
        rw [HQ.out.1, HQ.out.2]
        exact ⟨none, 0, 0, rfl, World.ownsRow_nil _ _ _ _, (HKE.out w5 HK5.out).trans (Kept.of_below (F := No) HO6.out) (fun _ h => h.elim)⟩
      · obtain rfl := hz1 hz
        clear hlong hz hz1
        go_upto_region 9 with (go_at_call 26; refine cs.mono ?_; rintro ex w6 ⟨ta, tn, tc, rfl, hown6, hbl6⟩)
        have HO6 : Hid (Below w5.heap.size w5 w6) := hbl6
        clear hown6 hbl6 cs
        go_wp2
        go_ret2
        rw [HQ.out.1, HQ.out.2]
        exact ⟨none, 0, 0, rfl, World.ownsRow_nil _ _ _ _, (HKE.out w5 HK5.out).trans (Kept.of_below (F := No) HO6.out) (fun _ h => h.elim)⟩
  · have hse2 : (se == 0) = false := by simpa using hse
    have hno : encOk x = false := by
      rcases HWH.out with h1 | h1
      · exact absurd (Prod.mk.injEq _ _ _ _ ▸ h1).2 hse
      · exact h1.2
    rw [if_neg hse] at cd
    have e1 : encX x = [] := by unfold encX; rw [hno]; rfl
    have e2 : encE x = 1 := by unfold encE; rw [hno]; rfl
    have HQ : Hid (EX = [] ∧ EE = 1) := ⟨HEX.out.1.trans e1, HEX.out.2.trans e2⟩
    clear e1 e2 hno hse
    go_upto_region 6 with (go_at_call 25; refine cd.mono ?_; rintro ex w5 ⟨da, dn, dc, rfl, hwr5, hk5, hown5⟩)
    have HK5 : Hid (Kept F4 w4 w5) := hk5
    clear hwr5 hk5 hown5 cd
    go_wp2
    go_ret2
    rw [HQ.out.1, HQ.out.2]
    exact ⟨none, 0, 0, rfl, World.ownsRow_nil _ _ _ _, HKE.out w5 HK5.out⟩

end Go.Proofs.YtolmhoenjcinjaaGreat
