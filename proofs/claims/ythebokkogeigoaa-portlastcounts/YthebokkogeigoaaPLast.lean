/-
  PortLastCounts.
-/
import Derived.Test.YthebokkogeigoaaPWork
namespace Go.Proofs.Ythebokkogeigoaa
open Go.RowKit
set_option linter.unusedVariables false
set_option maxRecDepth 100000

/-- one sampling in port: its sample -/
def Osm (w : World) (B b : Nat) (sz rf : Int) (o : Option (Int × List Int)) : Prop :=
  ∃ mb c S, Pt w B b mb c S ∧ S.idx 1 = some 0 ∧ S.ownB 1 0 false = true ∧ (S.en 0).sz = sz ∧ (S.en 0).rf = rf ∧ (o = none → (S.en 0).has = false) ∧ ∀ t x, o = some (t, x) → (S.en 0).has = true ∧ (S.en 0).tk = t ∧ (S.en 0).sx = x ∧ tickB t = true
theorem Osm.keep {w w' : World} {B b : Nat} {sz rf : Int} {o : Option (Int × List Int)} (h : Osm w B b sz rf o) (K : Kept No w w') : Osm w' B b sz rf o := by
  obtain ⟨mb, c, S, h1, h2⟩ := h
  exact ⟨mb, c, S, h1.keep K, h2⟩
theorem Osm.B_le {w : World} {B b : Nat} {sz rf : Int} {o : Option (Int × List Int)} (h : Osm w B b sz rf o) : B ≤ w.heap.size := by
  obtain ⟨mb, c, S, h1, h2⟩ := h
  exact h1.B_le
section
variable {B b : Nat} {sz rf : Int} {o : Option (Int × List Int)}
def setC (n sz t : Int) : Int := if n = sz ∧ tickB t = true then 0 else 2
theorem set_os {F : Nat → Prop} {da : Option Addr} {dn dc : Nat} {y : List Int} (w : World) (h : Osm w B b sz rf o) (t : Int) (hz : Zs w F da dn dc y) (hsz : sz ≤ 16) :
    Calls Try.prog 10 #[.pointer (some ⟨b, 0, none⟩), .int .i64 1, .slice da dn dc, .int .i64 t] w fun r w' => r = .returned (.int .i64 (setC dn sz t)) ∧ Osm w' B b sz rf (if (dn : Int) = sz ∧ tickB t = true then some (t, y) else o) ∧ Kept (fun k => B ≤ k) w w' := by
  obtain ⟨mb, c, S, hp, hi, ho, h1, h2, h3, h4⟩ := h
  by_cases hc : (dn : Int) = sz ∧ tickB t = true
  · rw [if_pos hc, show setC dn sz t = 0 from if_pos hc]
    refine (set_yes w hp i6_1 ho hi t hz (by rw [h1]; exact hc.1) hc.2 (by omega)).mono ?_
    rintro r w' ⟨rfl, v, d⟩
    obtain ⟨i1, i2, _⟩ := Pd.idx_some hi
    obtain ⟨hp', k', _, _⟩ := hp.did i1 i2 d
    have e0 : (S.put 0 ((S.en 0).stamp t v y)).en 0 = (S.en 0).stamp t v y := by show upd S.en 0 _ 0 = _; exact upd_same _ _ _
    refine ⟨rfl, ⟨mb, c, _, hp', hi, ?_, ?_, ?_, fun h => (by cases h), fun t' x' h => ?_⟩, k'.mono (fun k hk => (hp.pw_blk hk).1)⟩
    · have hi' : (S.put 0 ((S.en 0).stamp t v y)).idx 1 = some 0 := hi
      unfold Pd.ownB at ho ⊢
      rw [hi'] 
      rw [hi] at ho
      simp only [e0]
      exact ho
    · rw [e0]; exact h1
    · rw [e0]; exact h2
    · rw [e0]
      injection h with h
      injection h with ht hx
      exact ⟨rfl, ht, hx, ht ▸ hc.2⟩
  · rw [if_neg hc, show setC dn sz t = 2 from if_neg hc]
    refine (set_arg w hp i6_1 ho hi da dn dc t (by rw [h1]; exact hc)).mono ?_
    rintro r w' ⟨rfl, rfl⟩
    exact ⟨rfl, ⟨mb, c, S, hp, hi, ho, h1, h2, h3, h4⟩, Kept.refl _ _⟩
theorem last_os (w : World) (h : Osm w B b sz rf none) (t : Int) (ht : tickB t = true) : Calls Try.prog 9 #[.pointer (some ⟨b, 0, none⟩), .int .i64 1, .int .i64 t] w fun r w' => r = .returned (.tuple #[.slice none 0 0, .int .i64 0, .bool false, .int .i64 0]) ∧ Kept No w w' := by
  obtain ⟨mb, c, S, hp, hi, ho, h1, h2, h3, h4⟩ := h
  exact last_none w hp i6_1 ho hi t ht (h3 rfl)
theorem tickB_lo {t : Int} (h : tickB t = true) : 0 ≤ t ∧ t < 1099511627776 := by
  unfold tickB at h
  simpa using h
theorem last_one (w : World) {u : Int} {y : List Int} (h : Osm w B b sz rf (some (u, y))) (t : Int) (ht : tickB t = true) (hu : u ≤ t) (hy : y.length ≤ 17592186044416) : Calls Try.prog 9 #[.pointer (some ⟨b, 0, none⟩), .int .i64 1, .int .i64 t] w fun r w' => ∃ ya yc, r = .returned (.tuple #[.slice ya y.length yc, .int .i64 (t - u), .bool (decide (t - u ≤ rf)), .int .i64 0]) ∧ w'.ownsRow w.heap.size 2 1 (.slice ya y.length yc) y.length (y.map iv) ∧ Kept No w w' := by
  obtain ⟨mb, c, S, hp, hi, ho, h1, h2, h3, h4⟩ := h
  obtain ⟨h5, h6, h7, h8⟩ := h4 u y rfl
  have := last_yes w hp i6_1 ho hi t ht h5 (by rw [h6]; exact hu) (by rw [h6]; exact (tickB_lo h8).1) (by rw [h7]; exact hy)
  rw [h6, h7, h2] at this
  exact this
/-- Last answers something -/
theorem last_some (w : World) (h : Osm w B b sz rf o) (t : Int) (hy : ∀ u y, o = some (u, y) → y.length ≤ 17592186044416) : Calls Try.prog 9 #[.pointer (some ⟨b, 0, none⟩), .int .i64 1, .int .i64 t] w fun r w' => ∃ (a : Option Addr) (n c : Nat) (g : Int) (f : Bool) (e : Int), r = .returned (.tuple #[.slice a n c, .int .i64 g, .bool f, .int .i64 e]) ∧ Kept No w w' := by
  have hh := h
  obtain ⟨mb, c, S, hp, hi, ho, h1, h2, h3, h4⟩ := h
  by_cases hb : tickB t = false ∨ (S.en 0).has = true ∧ t < (S.en 0).tk
  · refine (last_arg w hp i6_1 ho hi t hb).mono ?_
    rintro r w' ⟨rfl, k⟩
    exact ⟨_, _, _, _, _, _, rfl, k⟩
  · have ht : tickB t = true := by
      cases h : tickB t with
      | true => rfl
      | false => exact absurd (.inl h) hb
    cases o with
    | none =>
      refine (last_os w hh t ht).mono ?_
      rintro r w' ⟨rfl, k⟩
      exact ⟨_, _, _, _, _, _, rfl, k⟩
    | some p =>
      obtain ⟨u, y⟩ := p
      obtain ⟨h5, h6, h7, h8⟩ := h4 u y rfl
      refine (last_one w hh t ht ?_ (hy u y rfl)).mono ?_
      · rw [h5, h6] at hb
        have : ¬ t < u := fun q => hb (.inr ⟨rfl, q⟩)
        omega
      · rintro r w' ⟨ya, yc, rfl, _, k⟩
        exact ⟨_, _, _, _, _, _, rfl, k⟩
end
theorem and15u (x : Int) (h0 : 0 ≤ x) (h1 : x < 256) : bits .and .u8 x 15 = x % 16 := by
  have h : bits .and .u8 x 15 = IntKind.u8.wrap (((x % 256).toNat &&& 15 : Nat) : Int) := by
    show IntKind.u8.wrap (((BitVec.ofInt 8 x &&& BitVec.ofInt 8 15).toNat : Nat) : Int) = _
    rw [BitVec.toNat_and, BitVec.toNat_ofInt, BitVec.toNat_ofInt]; rfl
  rw [h, show (x % 256).toNat &&& 15 = (x % 256).toNat % 16 from Nat.and_two_pow_sub_one_eq_mod _ 4]
  have e : x % 256 = x := by omega
  rw [e]
  have : ((x.toNat % 16 : Nat) : Int) = x % 16 := by omega
  rw [this]
  simp [IntKind.wrap, IntKind.bits, IntKind.signed]
  omega
set_option maxHeartbeats 16000000 in
theorem last_law {F G : Nat → Prop} {fa sa : Option Addr} {fn fc sn sc : Nat} {xs ys : List Int} (w : World) (s rf t u now : Int) (hs0 : 0 ≤ s) (hs1 : s < 256) (hF : Zs w F fa fn fc xs) (hG : Zs w G sa sn sc ys) :
    Calls Try.prog 3 #[.int .u8 s, .int .i64 rf, .slice fa fn fc, .slice sa sn sc, .int .i64 t, .int .i64 u, .int .i64 now] w fun r w' => r = .returned (.bool true) ∧ Kept No w w' := by
  have K1 : Kept No w (w.alloc (.cells #[.int .i64 0, .int .i64 0, .bool false, .int .i64 s, .int .i64 0, .int .i64 rf] 30)) := (Kept.refl No w).alloc _
  have IM := hid (image_one (p := ⟨0, 0, false, s, 0, rf⟩) (w.alloc (.cells #[.int .i64 0, .int .i64 0, .bool false, .int .i64 s, .int .i64 0, .int .i64 rf] 30)) (alloc_new w _))
  have HK1 := hid K1
  have hws : wrap64 s = s := by unfold wrap64; omega
  have HFG := hid (⟨hF, hG⟩ : _ ∧ _)
  clear K1 hF hG
  go_enter Try.func3, Try.ntmps3
  go_upto_region 2 with (go_at_call 7; refine IM.out.mono ?_; rintro e w2 ⟨pa, la, pn, pc', ln, lc, rfl, nw, k2⟩; have NW := hid nw; have K2 := hid (HK1.out.trans k2 (fun _ e => e.elim)); clear nw k2 IM HK1)
  have NX := hid (NW.out 1 _ ((Kept.refl No w2).alloc (.cells #[.slice pa pn pc', .slice la ln lc, .slice none 0 0] 27)))
  have K3 := hid (K2.out.alloc (.cells #[.slice pa pn pc', .slice la ln lc, .slice none 0 0] 27))
  have c0 : (w2.alloc (.cells #[.slice pa pn pc', .slice la ln lc, .slice none 0 0] 27)).cell? ⟨w2.heap.size, 0, none⟩ = some (.slice pa pn pc') := (cell_blk (alloc_new w2 _) 0).trans rfl
  have c1 : (w2.alloc (.cells #[.slice pa pn pc', .slice la ln lc, .slice none 0 0] 27)).cell? ⟨w2.heap.size, 1, none⟩ = some (.slice la ln lc) := (cell_blk (alloc_new w2 _) 1).trans rfl
  have c2 : (w2.alloc (.cells #[.slice pa pn pc', .slice la ln lc, .slice none 0 0] 27)).cell? ⟨w2.heap.size, 2, none⟩ = some (.slice none 0 0) := (cell_blk (alloc_new w2 _) 2).trans rfl
  clear NW K2
  generalize (w2.alloc (.cells #[.slice pa pn pc', .slice la ln lc, .slice none 0 0] 27)) = w3 at *
  generalize w2.heap.size = z at *
  go_upto_region 5 with (go_at_call 8; refine NX.out.mono ?_; rintro e w4 ⟨b, mb, eb, rfl, hp, k4⟩; have HP : Hid (Osm w4 w.heap.size b (1 + s % 16) (rf % 1099511627776) none ∧ Kept No w w4) := ⟨⟨mb, 1, _, hp.base K3.out.size, one_idx rfl, rfl, rfl, rfl, fun _ => rfl, fun t x h => (by cases h)⟩, K3.out.trans k4 (fun _ e => e.elim)⟩; clear hp k4 NX K3 c0 c1 c2)
  have LA := hid (last_os w4 HP.out.1 5 rfl)
  go_upto_region 8 with (go_at_call 9; refine LA.out.mono ?_; rintro e w5 ⟨rfl, k5⟩; have H5 := hid (⟨HP.out.1.keep k5, HP.out.2.trans k5 (fun _ e => e.elim)⟩ : _ ∧ Kept No w w5); clear k5 LA HP)
  have SE := hid (set_os w5 H5.out.1 t (HFG.out.1.kept H5.out.2 (fun _ _ e => e)) (by omega))
  have hce : 0 ≤ setC fn (1 + s % 16) t := by unfold setC; split <;> omega
  generalize setC fn (1 + s % 16) t = ce at *
  go_upto_region 9 with (go_at_call 10; refine SE.out.mono ?_; rintro e w6 ⟨rfl, o6, k6⟩; have H6 := hid (⟨o6, H5.out.2.trans k6 (fun k hk => .inr hk)⟩ : _ ∧ Kept No w w6); clear o6 k6 SE H5)
  have SF := hid (set_os w6 H6.out.1 u (HFG.out.2.kept H6.out.2 (fun _ _ e => e)) (by omega))
  generalize hcf : setC sn (1 + s % 16) u = cf at *
  have HCF := hid hcf
  clear hcf
  go_upto_region 10 with (go_at_call 10; refine SF.out.mono ?_; rintro e w7 ⟨rfl, o7, k7⟩; have H7 := hid (⟨o7, H6.out.2.trans k7 (fun k hk => .inr hk)⟩ : _ ∧ Kept No w w7); clear o7 k7 SF H6)
  have hxl := HFG.out.1.len
  have hyl := HFG.out.2.len
  have a15 := and15u s hs0 hs1
  have a40 := and40 rf
  have hw1 : wrap64 (s % 16) = s % 16 := by unfold wrap64; omega
  have hw2 : wrap64 (1 + s % 16) = 1 + s % 16 := by unfold wrap64; omega
  have LS : Hid (Calls Try.prog 9 #[.pointer (some ⟨b, 0, none⟩), .int .i64 1, .int .i64 now] w7 fun r w' => ∃ (a : Option Addr) (n c : Nat) (g : Int) (f : Bool) (e : Int), r = .returned (.tuple #[.slice a n c, .int .i64 g, .bool f, .int .i64 e]) ∧ Kept No w7 w') := by
    refine last_some w7 H7.out.1 now (fun u' y' h => ?_)
    split at h
    · rename_i hc
      injection h with h
      injection h with _ h
      subst h
      have := hc.1
      omega
    · split at h
      · rename_i hc
        injection h with h
        injection h with _ h
        subst h
        have := hc.1
        omega
      · cases h
  have WK := fun W => works_any W
  by_cases hc : (sn : Int) = 1 + s % 16 ∧ tickB u = true
  · obtain ⟨hcl, hct⟩ := hc
    have hcf : cf = 0 := by rw [← HCF.out]; exact if_pos ⟨hcl, hct⟩
    have H8 := H7.out
    rw [if_pos ⟨hcl, hct⟩] at H8
    obtain ⟨hu0, hu1⟩ := tickB_lo hct
    have hlb : ((sn : Int) == 1 + s % 16) = true := by simp [hcl]
    by_cases hn : u ≤ now ∧ now < 1099511627776
    · obtain ⟨hn1, hn2⟩ := hn
      have hnb : tickB now = true := by unfold tickB; simp; omega
      have lo := last_one w7 H8.1 now hnb hn1 (by omega)
      rw [hyl] at lo
      have LO := hid lo
      have HG := hid HFG.out.2
      have HLE := hid hyl
      have H9 := hid H8.2
      have hwd : wrap64 (now - u) = now - u := by unfold wrap64; omega
      have hx0 : ¬ now < u := by omega
      have hx1 : ¬ 1099511627776 ≤ now := by omega
      have hbn : sn ≤ 17592186044416 := by omega
      rw [hcf]
      clear hcf hct hcl hnb LS HCF H7 H8 HFG hlb hxl a15 hw1 hw2 hws hce lo hyl hu0 hu1 hn1 hn2
      go_upto_region 11 with (go_at_call 9; refine LO.out.mono ?_; rintro e w8 ⟨ya, yc, rfl, om, k8⟩; have H10 := hid (⟨om, H9.out.trans k8 (fun _ e => e.elim)⟩ : _ ∧ Kept No w w8); clear om k8 LO H9)
      have SA : Hid (Calls Try.prog 12 #[.slice ya sn yc, .slice sa sn sc] w8 fun e w' => e = .returned (.bool true) ∧ Kept No w8 w') := by
        have h1 := H10.out.1
        have e1 := HLE.out
        subst e1
        obtain ⟨a', c', hv, hz⟩ := Zs.of_owns h1
        injection hv with hv1 _ hv2
        subst hv1 hv2
        exact same_yes w8 hz (HG.out.kept H10.out.2 (fun _ _ e => e)) hbn
      have H11 := hid H10.out.2
      clear H10 hbn
      generalize hag : now - u = ag at *
      have hwe : wrap64 (now - u) = ag := by rw [hag]; exact hwd
      clear hag hwd
      have hr1 : (ag == ag) = true := by simp
      generalize hfr : decide (ag ≤ rf % 1099511627776) = fr at *
      have HFR := hid hfr
      have hr2 : (fr == fr) = true := by simp
      go_wp2_with (first
        | (go_at_call 12; refine SA.out.mono ?_; rintro e w9 ⟨rfl, k9⟩; have H12 := hid (H11.out.trans k9 (fun _ e => e.elim)); clear k9 SA)
        | (go_at_call 11; refine (WK _).mono ?_; rintro e w10 ⟨rfl, k10⟩; have H13 := hid (H12.out.trans k10 (fun _ e => e.elim)); clear k10))
      go_ret
      exact ⟨rfl, H13.out⟩
    · have H9 := hid H8.2
      have hh1 : decide (0 ≤ u) = true := by simp [hu0]
      have hh2 : decide (u < 1099511627776) = true := by simp [hu1]
      rw [hcf]
      clear hcf hct hcl HCF H7 H8 HFG hxl hyl
      by_cases hx : now < u
      · clear hn
        go_upto_region 11 with (go_at_call 9; refine LS.out.mono ?_; rintro e w8 ⟨ma, mn, mc, mg, mf, me, rfl, k8⟩; have H10 := hid (H9.out.trans k8 (fun _ e => e.elim)); clear k8 LS H9)
        go_wp2_with (go_at_call 11; refine (WK _).mono ?_; rintro e w10 ⟨rfl, k10⟩; have H13 := hid (H10.out.trans k10 (fun _ e => e.elim)); clear k10)
        go_ret
        exact ⟨rfl, H13.out⟩
      · have hx1 : 1099511627776 ≤ now := by omega
        clear hn
        go_upto_region 11 with (go_at_call 9; refine LS.out.mono ?_; rintro e w8 ⟨ma, mn, mc, mg, mf, me, rfl, k8⟩; have H10 := hid (H9.out.trans k8 (fun _ e => e.elim)); clear k8 LS H9)
        go_wp2_with (go_at_call 11; refine (WK _).mono ?_; rintro e w10 ⟨rfl, k10⟩; have H13 := hid (H10.out.trans k10 (fun _ e => e.elim)); clear k10)
        go_ret
        exact ⟨rfl, H13.out⟩
  · have hcf : cf = 2 := by rw [← HCF.out]; exact if_neg hc
    have H9 := hid H7.out.2
    rw [hcf]
    clear hcf HCF H7 HFG hxl hyl
    by_cases hl : (sn : Int) = 1 + s % 16
    · have hlb : ((sn : Int) == 1 + s % 16) = true := by simp [hl]
      by_cases hu0 : 0 ≤ u
      · have hu1 : ¬ u < 1099511627776 := fun q => hc ⟨hl, by unfold tickB; simp; omega⟩
        have hub : decide (u < 1099511627776) = false := by simp [hu1]
        clear hc hl
        go_upto_region 11 with (go_at_call 9; refine LS.out.mono ?_; rintro e w8 ⟨ma, mn, mc, mg, mf, me, rfl, k8⟩; have H10 := hid (H9.out.trans k8 (fun _ e => e.elim)); clear k8 LS H9)
        go_wp2_with (go_at_call 11; refine (WK _).mono ?_; rintro e w10 ⟨rfl, k10⟩; have H13 := hid (H10.out.trans k10 (fun _ e => e.elim)); clear k10)
        go_ret
        exact ⟨rfl, H13.out⟩
      · clear hc hl
        go_upto_region 11 with (go_at_call 9; refine LS.out.mono ?_; rintro e w8 ⟨ma, mn, mc, mg, mf, me, rfl, k8⟩; have H10 := hid (H9.out.trans k8 (fun _ e => e.elim)); clear k8 LS H9)
        go_wp2_with (go_at_call 11; refine (WK _).mono ?_; rintro e w10 ⟨rfl, k10⟩; have H13 := hid (H10.out.trans k10 (fun _ e => e.elim)); clear k10)
        go_ret
        exact ⟨rfl, H13.out⟩
    · have hlb : ((sn : Int) == 1 + s % 16) = false := by simp [hl]
      clear hc hl
      go_upto_region 11 with (go_at_call 9; refine LS.out.mono ?_; rintro e w8 ⟨ma, mn, mc, mg, mf, me, rfl, k8⟩; have H10 := hid (H9.out.trans k8 (fun _ e => e.elim)); clear k8 LS H9)
      go_wp2_with (go_at_call 11; refine (WK _).mono ?_; rintro e w10 ⟨rfl, k10⟩; have H13 := hid (H10.out.trans k10 (fun _ e => e.elim)); clear k10)
      go_ret
      exact ⟨rfl, H13.out⟩
end Go.Proofs.Ythebokkogeigoaa
