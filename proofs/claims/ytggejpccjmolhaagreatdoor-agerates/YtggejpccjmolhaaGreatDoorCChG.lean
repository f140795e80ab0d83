/-
  The lists of channels: goesTo, hasOneSize.
-/
import Derived.Test.YtggejpccjmolhaaGreatDoorG23
namespace Go.Proofs.YtggejpccjmolhaaGreatDoor
open Go.RowKit
set_option linter.unusedVariables false
set_option linter.unusedSimpArgs false
set_option maxRecDepth 100000

set_option maxHeartbeats 8000000 in
theorem goesTo_any {F : Nat → Prop} {a : Option Addr} {n c : Nat} {ps : List Po} (kd fr : Int) (ta : Option Addr) (tn tc : Nat) (dst : List Int) (ph pe : Int) (w : World) (h : Ls 6 elPo w F a n c ps) (hT : Ls 1 elI w F ta tn tc dst) :
    Calls Tryz.prog 112 #[.slice a n c, .agg #[.int .i64 kd, .int .i64 fr, .slice ta tn tc, .int .i64 ph, .int .i64 pe]] w fun e w' => e = .returned (.bool (goesB ps kd 0 dst)) ∧ Kept No w w' := by
  have K0 : Kept No w (w.alloc (.cells #[.int .i64 kd, .int .i64 fr, .slice ta tn tc, .int .i64 ph, .int .i64 pe] 34)) := (Kept.refl No w).alloc _
  have hl := hT.len
  have hm := hT.max
  have hcap := hT.cap
  have HM : Hid (∀ w', Kept No (w.alloc (.cells #[.int .i64 kd, .int .i64 fr, .slice ta tn tc, .int .i64 ph, .int .i64 pe] 34)) w' → w'.cell? ⟨w.heap.size, 0, none⟩ = some (.int .i64 kd) ∧ Kept No w w') := fun w' k => ⟨k.cell (by simp) (fun h => h), K0.trans k (fun _ h => h.elim)⟩
  have HP : Hid (Ls 6 elPo w F a n c ps) := h
  have HT : Hid (Ls 1 elI w F ta tn tc dst) := hT
  have HG : Hid (goesB ps kd 0 (dst.drop 0) = goesB ps kd 0 dst) := by show goesB ps kd 0 (dst.drop 0) = _; rw [List.drop_zero]
  clear K0 h hT
  obtain ⟨G, hG⟩ : ∃ G, goesB ps kd 0 dst = G := ⟨_, rfl⟩
  rw [hG] at HG ⊢
  clear hG
  go_enter Tryz.func112, Tryz.ntmps112
  go_wp2
  go_loopw [5, 11] (fun l i wr => ∃ (k : Nat) (z : Int), k ≤ tn ∧ i = .int .i64 k ∧ l = .int .i64 z ∧ Kept No (w.alloc (.cells #[.int .i64 kd, .int .i64 fr, .slice ta tn tc, .int .i64 ph, .int .i64 pe] 34)) wr ∧ goesB ps kd z (dst.drop k) = G) (fun _ i _ => tn - (intOf i).toNat)
  case atStart => exact ⟨0, 0, by omega, rfl, rfl, Kept.refl _ _, HG.out⟩
  case round =>
    obtain ⟨k, l, hk, rfl, rfl, K, hg⟩ := hrel
    by_cases hlt : k < tn
    · have hkz : k < dst.length := by omega
      have hx : dst[k]? = some dst[k] := List.getElem?_eq_getElem hkz
      obtain ⟨b, o, cs, rfl, hF, hcl, hr, rfl, hI⟩ := HT.out.at' k _ hx
      obtain ⟨m0, KW⟩ := HM.out wr K
      have d : wr.cell? ⟨b, o + k, none⟩ = some (.int .i64 dst[k]) := by
        have := KW.cell (hr 0 _ rfl) (fun h => h)
        rw [Nat.mul_one, Nat.add_zero] at this
        exact this
      rw [List.drop_eq_getElem_cons hkz] at hg
      have HK : Hid (Kept No (w.alloc (.cells #[.int .i64 kd, .int .i64 fr, .slice (some ⟨b, o, none⟩) tn tc, .int .i64 ph, .int .i64 pe] 34)) wr) := K
      obtain ⟨z, hz⟩ : ∃ z, z = dst[k] := ⟨_, rfl⟩
      rw [← hz] at d hg
      have cf := fits_any z kd false wr (lsPo_keep HP.out KW)
      have hltz : (k : Int) < (tn : Int) := by omega
      clear K hr hI hx hz KW
      by_cases hle : z ≤ l
      · have HGG : Hid (G = false) := by show G = false; rw [← hg]; simp only [goesB]; rw [decide_eq_false (by omega)]; rfl
        clear hg cf
        go_wp2
        go_ret
        exact ⟨by rw [HGG.out]; rfl, (HM.out _ HK.out).2⟩
      · cases hB : fitB ps z false kd with
        | false =>
          have HGG : Hid (G = false) := by show G = false; rw [← hg]; simp only [goesB]; rw [hB]; simp
          rw [hB] at cf
          clear hg hB
          go_wp2_with (go_at_call 145; refine cf.mono ?_; rintro e w2 ⟨rfl, k2⟩)
          go_ret
          exact ⟨by rw [HGG.out]; rfl, (HM.out _ (HK.out.trans k2 (fun _ h => h.elim))).2⟩
        | true =>
          have HGG : Hid (goesB ps kd z (dst.drop (k + 1)) = G) := by show goesB ps kd z (dst.drop (k + 1)) = G; rw [← hg]; simp only [goesB]; rw [hB, decide_eq_true (by omega)]; rfl
          rw [hB] at cf
          clear hg hB
          go_wp2_with (go_at_call 145; refine cf.mono ?_; rintro e w2 ⟨rfl, k2⟩)
          go_roundw
          case rel => exact ⟨k + 1, z, by omega, by go_num, rfl, HK.out.trans k2 (fun _ h => h.elim), HGG.out⟩
          case measure => simp [intOf]; omega
    · have hkn : k = tn := by omega
      subst hkn
      have HGG : Hid (G = true) := by show G = true; rw [← hg, ← hl, List.drop_length]; rfl
      have HK : Hid (Kept No w wr) := (HM.out _ K).2
      clear hg K
      go_wp2
      go_ret
      exact ⟨by rw [HGG.out]; rfl, HK.out⟩

theorem crow4 {F : Nat → Prop} {a : Option Addr} {n c : Nat} {ps : List Po} (kd fr : Int) (ta : Option Addr) (tn tc : Nat) (dst : List Int) (ph pe : Int) (g : Nat) (w : World) (h : Ls 6 elPo w F a n c ps) (hT : Ls 1 elI w F ta tn tc dst) (hg : w.cell? ⟨g, 0, none⟩ = some (.slice a n c)) :
    Calls Tryz.prog 111 #[.agg #[.int .i64 kd, .int .i64 fr, .slice ta tn tc, .int .i64 ph, .int .i64 pe], .pointer (some ⟨g, 0, none⟩)] w fun e w' => e = .returned (.bool (goesB ps kd 0 dst)) ∧ Kept No w w' := by
  have HK : Hid (∀ o, Kept No w (w.alloc o)) := fun o => (Kept.refl No w).alloc o
  have hc := goesTo_any kd fr ta tn tc dst ph pe (w.alloc (.cells #[.int .i64 kd, .int .i64 fr, .slice ta tn tc, .int .i64 ph, .int .i64 pe] 34)) (lsPo_keep h (HK.out _)) (hT.kept (HK.out _) (fun _ _ h => h) (elI_kept (HK.out _) (fun _ _ h => h)))
  have hg' := (HK.out (.cells #[.int .i64 kd, .int .i64 fr, .slice ta tn tc, .int .i64 ph, .int .i64 pe] 34)).cell hg (fun h => h)
  clear h hg hT
  generalize goesB ps kd 0 dst = z at *
  go_enter Tryz.func111, Tryz.ntmps111
  go_wp2_with (go_at_call 112; refine hc.mono ?_; rintro e w' ⟨rfl, k2⟩)
  go_ret
  exact ⟨rfl, (HK.out _).trans k2 (fun _ h => h.elim)⟩

set_option maxHeartbeats 2000000 in
theorem oneSize1_prd {F : Nat → Prop} {a : Option Addr} {n c : Nat} {ps : List Po} (g1 g2 : Nat) (s : Int) (k : Int) (w : World) (h : Ls 6 elPo w F a n c ps) (hg1 : w.cell? ⟨g1, 0, none⟩ = some (.slice a n c)) (hg2 : w.cell? ⟨g2, 0, none⟩ = some (.int .i64 s)) (h1 : 1 ≤ k) (h2 : k ≤ n) :
    Calls Tryz.prog 151 #[.int .i64 k, .pointer (some ⟨g1, 0, none⟩), .pointer (some ⟨g2, 0, none⟩)] w fun e w' => e = .returned (.bool ((poAt ps k).sz != s)) ∧ Kept No w w' := by
  obtain ⟨i, b, o, rfl, hin, rfl, hok, r0, r1, r2, r3, r4, r5⟩ := po_at h h1 h2
  have hn : n ≤ 9223372036854775807 := Nat.le_trans h.cap h.max
  clear h
  generalize poAt ps ((i : Int) + 1) = y at *
  obtain ⟨y0, y1, y2, y3, y4, y5⟩ := y
  simp only at r0 r1 r2 r3 r4 r5 ⊢
  have HK : Hid (Kept No w w) := Kept.refl No w
  clear r0 r1 r2 r4 r5 hok h1 h2
  go_enter Tryz.func151, Tryz.ntmps151
  go_upto_region 1 with fail
  go_region
  all_goals (try go_wp2)
  all_goals (go_ret; exact ⟨rfl, HK.out.drewN _⟩)
theorem szs {x : Int} {k : Nat} (h : x = (k : Int) + 1) : wrap64 (x - 1) = (k : Int) → True := fun _ => trivial

set_option maxHeartbeats 8000000 in
theorem hasOneSize_any {F : Nat → Prop} {a : Option Addr} {n c : Nat} {ps : List Po} (kd fr : Int) (ta : Option Addr) (tn tc : Nat) (dst : List Int) (ph pe : Int) (w : World) (h : Ls 6 elPo w F a n c ps) (hT : Ls 1 elI w F ta tn tc dst) (hfr : fr = 0 ∨ (1 ≤ fr ∧ fr ≤ n)) (hd : ∀ z ∈ dst, 1 ≤ z ∧ z ≤ n) :
    Calls Tryz.prog 115 #[.slice a n c, .agg #[.int .i64 kd, .int .i64 fr, .slice ta tn tc, .int .i64 ph, .int .i64 pe]] w fun e w' => e = .returned (.bool (oneSizeB ps fr dst)) ∧ Kept No w w' := by
  have hn : n ≤ 9223372036854775807 := Nat.le_trans h.cap h.max
  have hl := hT.len
  have htm : tn ≤ 9223372036854775807 := Nat.le_trans hT.cap hT.max
  have K0 : Kept No w ((w.alloc (.cells #[.slice a n c] 23)).alloc (.cells #[.int .i64 kd, .int .i64 fr, .slice ta tn tc, .int .i64 ph, .int .i64 pe] 34)) := ((Kept.refl No w).alloc _).alloc _
  have HKA : Hid (Kept No w ((w.alloc (.cells #[.slice a n c] 23)).alloc (.cells #[.int .i64 kd, .int .i64 fr, .slice ta tn tc, .int .i64 ph, .int .i64 pe] 34))) := K0
  cases dst with
  | nil =>
    simp only [List.length_nil] at hl
    subst hl
    clear h hT hd hfr K0
    go_enter Tryz.func115, Tryz.ntmps115
    go_wp2
    go_ret
    exact ⟨rfl, HKA.out⟩
  | cons x r =>
    obtain ⟨hx1, hx2⟩ := hd x (List.mem_cons_self ..)
    obtain ⟨b, o, cs, rfl, hF, hcl, hr, rfl, hI⟩ := hT.at' 0 x rfl
    have h0 := hr 0 _ rfl
    simp only [Nat.zero_mul, Nat.add_zero] at h0
    obtain ⟨i, pb, po, hxi, hin, rfl, hok, r0, r1, r2, r3, r4, r5⟩ := po_at h hx1 hx2
    have ht0 : 0 < tn := by simp at hl; omega
    have g0 := K0.cell h0 (fun h => h)
    have g3 := K0.cell r3 (fun h => h)
    have HS : Hid (∀ W, Kept No w W → ∀ q1 q2 s, s = (poAt ps x).sz → W.cell? ⟨q1, 0, none⟩ = some (.slice (some ⟨pb, po, none⟩) n c) → W.cell? ⟨q2, 0, none⟩ = some (.int .i64 s) → Calls Tryz.prog 40 #[.slice (some ⟨b, o, none⟩) tn tc, .func (.func 151) #[] #[.pointer (some ⟨q1, 0, none⟩), .pointer (some ⟨q2, 0, none⟩)]] W fun e w' => e = .returned (.bool ((x :: r).any (fun k => (poAt ps k).sz != s))) ∧ Kept No W w') := by
      intro W hW q1 q2 s hs hq1 hq2
      refine containsN_any (F := F) (enters_of Tryz.func151 (by kernel_rfl) rfl) W ?_ (hT.kept hW (fun _ _ h => h) (elI_kept hW (fun _ _ h => h)))
      intro W2 y hy K2
      exact oneSize1_prd q1 q2 s y W2 (lsPo_keep h (hW.trans K2 (fun _ h => h.elim))) (K2.cell hq1 (fun h => h)) (K2.cell hq2 (fun h => h)) (hd y hy).1 (hd y hy).2
    have HO : Hid (oneSizeB ps fr (x :: r) = ((fr == 0 || (poAt ps fr).sz == (poAt ps x).sz) && !((x :: r).any (fun k => (poAt ps k).sz != (poAt ps x).sz)))) := rfl
    obtain ⟨s, hs⟩ : ∃ s, s = (poAt ps x).sz := ⟨_, rfl⟩
    rw [← hs] at g3 HO
    have HSS : Hid (s = (poAt ps x).sz) := hs
    have hmf : ∀ (fn : Fn) (first cap : Array Value) (w : World), (Instr.makeFunc fn first cap).run Tryz.prog w = .ok (.func fn first cap) w := fun _ _ _ _ => rfl
    obtain ⟨Z, hZ⟩ : ∃ Z, Z = (x :: r).any (fun k => (poAt ps k).sz != s) := ⟨_, rfl⟩
    rw [← hZ] at HO
    have HZ : Hid (Z = (x :: r).any (fun k => (poAt ps k).sz != s)) := hZ
    have hne : ¬ ((tn : Int) = 0) := by omega
    have HF : Hid (fr = 0 ∨ ∃ (j : Nat), fr = j + 1 ∧ j < n ∧ ∀ W, Kept No w W → W.cell? ⟨pb, po + j * 6 + 3, none⟩ = some (.int .i64 (poAt ps fr).sz)) := by
      rcases hfr with hfr | ⟨f1, f2⟩
      · exact .inl hfr
      · obtain ⟨j, b', o', hj, hjn, e, _, _, _, _, s3, _⟩ := po_at h f1 f2
        simp only [Option.some.injEq, Addr.mk.injEq, and_true] at e
        obtain ⟨rfl, rfl⟩ := e
        exact .inr ⟨j, hj, hjn, fun W hW => hW.cell s3 (fun h => h)⟩
    generalize oneSizeB ps fr (x :: r) = R at *
    clear h hT hd hfr K0 hl hr hI hok r0 r1 r2 r3 r4 r5 h0 hF hs hZ hx2
    subst hxi
    have HM : Hid (∀ W, Kept No ((w.alloc (.cells #[.slice (some ⟨pb, po, none⟩) n c] 23)).alloc (.cells #[.int .i64 kd, .int .i64 fr, .slice (some ⟨b, o, none⟩) tn tc, .int .i64 ph, .int .i64 pe] 34)) W → W.cell? ⟨w.heap.size, 0, none⟩ = some (.slice (some ⟨pb, po, none⟩) n c) ∧ W.cell? ⟨w.heap.size + 1, 1, none⟩ = some (.int .i64 fr) ∧ W.cell? ⟨w.heap.size + 1, 2, none⟩ = some (.slice (some ⟨b, o, none⟩) tn tc) ∧ W.cell? ⟨b, o, none⟩ = some (.int .i64 ((i : Int) + 1)) ∧ W.cell? ⟨pb, po + i * 6 + 3, none⟩ = some (.int .i64 s)) := fun W k => ⟨k.cell (by simp) (fun h => h), k.cell (by simp) (fun h => h), k.cell (by simp) (fun h => h), k.cell g0 (fun h => h), k.cell g3 (fun h => h)⟩
    go_enter Tryz.func115, Tryz.ntmps115
    go_upto_region 3 with fail
    generalize (w.alloc (.cells #[.slice (some ⟨pb, po, none⟩) n c] 23)).alloc (.cells #[.int .i64 kd, .int .i64 fr, .slice (some ⟨b, o, none⟩) tn tc, .int .i64 ph, .int .i64 pe] 34) = w0 at *
    obtain ⟨m1, m2, m3, m4, m5⟩ := HM.out w0 (Kept.refl No w0)
    obtain ⟨a1, a2, a3, a4, a5⟩ := HM.out (w0.alloc (.cells #[.int .i64 0] 3)) ((Kept.refl No w0).alloc _)
    have hi0 : (0 : Int) ≤ (i : Int) := by omega
    have hi1 : (i : Int) < (n : Int) := by omega
    have hi2 : IntKind.i64.wrap (i : Int) = (i : Int) := IntWalk.i64_in _ ⟨by omega, by omega⟩
    clear g0 g3
    go_region
    have k5 : Kept No w0 (w0.alloc (.cells #[.int .i64 s] 3)).drew := ((Kept.refl No w0).alloc _).drew
    have d5 : (w0.alloc (.cells #[.int .i64 s] 3)).drew.cell? ⟨w0.heap.size, 0, none⟩ = some (.int .i64 s) := by simp
    have H5 : Hid (Kept No w0 (w0.alloc (.cells #[.int .i64 s] 3)).drew) := k5
    have H6 : Hid (Kept No w (w0.alloc (.cells #[.int .i64 s] 3)).drew) := HKA.out.trans k5 (fun _ h => h.elim)
    obtain ⟨g5, hg5⟩ : ∃ g, w0.heap.size = g := ⟨_, rfl⟩
    rw [hg5] at d5
    rw [hg5]
    clear m1 m2 m3 m4 m5 a1 a2 a3 a4 a5 hg5 k5
    generalize (w0.alloc (.cells #[.int .i64 s] 3)).drew = w5 at *
    have cS := HS.out w5 H6.out w.heap.size g5 s HSS.out (HM.out w5 H5.out).1 d5
    rw [← HZ.out] at cS
    have hpk : ∀ (b1 : Bool) (u v : Value), True := fun _ _ _ => trivial
    rcases HF.out with hf | ⟨j, hfj, hjn, hcj⟩
    · have HR : Hid (R = !Z) := by show R = !Z; rw [HO.out, hf]; rfl
      subst hf
      obtain ⟨m1, m2, m3, m4, m5⟩ := HM.out w5 H5.out
      have hz : ((0 : Int) != 0) = false := rfl
      clear cS
      go_upto_region 4 with fail
      go_region
      have H7 : Hid (Kept No w5 w5.drew) := (Kept.refl No w5).drew
      have cS := HS.out w5.drew (H6.out.drew) w.heap.size g5 s HSS.out (HM.out w5.drew (H5.out.trans H7.out (fun _ h => h.elim))).1 (H7.out.cell d5 (fun h => h))
      rw [← HZ.out] at cS
      have HE := H6.out.drew
      have H8 : Hid (Kept No w w5.drew) := HE
      obtain ⟨x1, x2, x3, x4, x5⟩ := HM.out w5.drew (H5.out.trans H7.out (fun _ h => h.elim))
      clear HE m1 m2 m3 m4 m5 d5 H5 H6 H7 HS HM HF HO HZ HKA HSS
      generalize w5.drew = w6 at *
      go_wp2_with (go_at_call 40; refine cS.mono ?_; rintro e w' ⟨rfl, k2⟩)
      go_ret
      exact ⟨by rw [HR.out]; rfl, H8.out.trans k2 (fun _ h => h.elim)⟩
    · have hc6 := hcj w5 H6.out
      have hfz : (fr == 0) = false := by simp; omega
      have hj0 : (0 : Int) ≤ (j : Int) := by omega
      have hj1 : (j : Int) < (n : Int) := by omega
      have hj2 : IntKind.i64.wrap (j : Int) = (j : Int) := IntWalk.i64_in _ ⟨by omega, by omega⟩
      have HR : Hid (R = ((poAt ps fr).sz == s && !Z)) := by show R = _; rw [HO.out, hfz]; rfl
      generalize (poAt ps fr).sz = s2 at *
      subst hfj
      have hfn : ¬ ((j : Int) + 1 = 0) := by omega
      have hft : (((j : Int) + 1) != 0) = true := by simp; omega
      obtain ⟨m1, m2, m3, m4, m5⟩ := HM.out w5 H5.out
      clear cS hcj
      cases hq : (s2 == s)
      · have hne2 : ¬ s2 = s := by simpa using hq
        have hnt : (s2 != s) = true := by simpa using hq
        go_upto_region 4 with fail
        go_region
        have H8 : Hid (Kept No w w5.drew) := H6.out.drew
        clear m1 m2 m3 m4 m5 d5 H5 H6 HS HM HF HO HZ HKA HSS hc6
        generalize w5.drew = w6 at *
        go_wp2
        go_ret
        exact ⟨by rw [HR.out, hq]; rfl, H8.out⟩
      · have heq2 : s2 = s := by simpa using hq
        subst heq2
        go_upto_region 4 with fail
        go_region
        have H7 : Hid (Kept No w5 w5.drew) := (Kept.refl No w5).drew
        have cS := HS.out w5.drew (H6.out.drew) w.heap.size g5 s2 HSS.out (HM.out w5.drew (H5.out.trans H7.out (fun _ h => h.elim))).1 (H7.out.cell d5 (fun h => h))
        rw [← HZ.out] at cS
        have H8 : Hid (Kept No w w5.drew) := H6.out.drew
        obtain ⟨x1, x2, x3, x4, x5⟩ := HM.out w5.drew (H5.out.trans H7.out (fun _ h => h.elim))
        clear m1 m2 m3 m4 m5 d5 H5 H6 H7 HS HM HF HO HZ HKA HSS hc6
        generalize w5.drew = w6 at *
        go_wp2_with (go_at_call 40; refine cS.mono ?_; rintro e w' ⟨rfl, k2⟩)
        go_ret
        exact ⟨by rw [HR.out, hq]; rfl, H8.out.trans k2 (fun _ h => h.elim)⟩
end Go.Proofs.YtggejpccjmolhaaGreatDoor
