/-
  One text: KPd.
-/
import Derived.Test.YtibmgpinfdcaoaaGreatDoorG41
namespace Go.Proofs.YtibmgpinfdcaoaaGreatDoor
open Go.RowKit Plain
set_option linter.unusedVariables false
set_option linter.unusedSimpArgs false
set_option maxRecDepth 100000

set_option maxHeartbeats 32000000 in
theorem placedC_any {F F' : Nat → Prop} {a ea : Option Addr} {c ec n : Nat} {xs : List Srv} {es : List Evt} (fr be p : Int) (w : World) (hg : Gl w) (h : Sv w F a xs.length c xs) (hF : ∀ k, F k → k < w.heap.size) (hn : xs.length * 32 ≤ 140737488351232) (he : Es w F' ea n ec es) (hF' : ∀ k, F' k → k < w.heap.size) (hok : okE7 es) (hb : n * 72 ≤ 140737488351232) :
    Calls Tryz.prog 15 #[.slice a xs.length c, .int .i64 fr, .int .i64 be, .slice ea n ec, .int .i64 p] w fun e w' => e = .returned (.bool true) ∧ Kept No w w' := by
  have HS : Hid (Gl w ∧ Sv w F a xs.length c xs ∧ (∀ k, F k → k < w.heap.size) ∧ Es w F' ea n ec es ∧ (∀ k, F' k → k < w.heap.size)) := ⟨hg, h, hF, he, hF'⟩
  have HO : Hid (∀ W, Kept No w W → Calls Tryz.prog 26 #[.slice a xs.length c] W fun e w' => ∃ ga gc, e = .returned (.slice ga (othL xs xs.length).length gc) ∧ Sv w' (fun k => Bk9 ga k) ga (othL xs xs.length).length gc (othL xs xs.length) ∧ (∀ k, Bk9 ga k → W.heap.size ≤ k ∧ k < w'.heap.size) ∧ ((ga = none ∧ xs.length = 0) ∨ ∃ g f, ga = some ⟨g, 0, none⟩ ∧ Mf w' g xs.length f ∧ Fz w' g) ∧ Kept No W w') := fun W k => others_sv W (h.keep k) hn
  have HM : Hid (∀ W, Kept No w W → Calls Tryz.prog 27 #[.slice ea n ec] W fun e w' => ∃ ha hc, e = .returned (.slice ha n hc) ∧ Es w' (fun k => Bk9 ha k) ha n hc (mvL es n) ∧ (∀ k, Bk9 ha k → W.heap.size ≤ k ∧ k < w'.heap.size) ∧ ((ha = none ∧ n = 0 ∧ hc = 0) ∨ ∃ g, ha = some ⟨g, 0, none⟩ ∧ Me w' g n (fun i => (mvL es n).getD i dEvt)) ∧ n ≤ hc ∧ hc ≤ 9223372036854775807 ∧ Kept No W w') := fun W k => moved_sv W (he.keep k) hok hb
  have HLL : Hid ((othL xs xs.length).length = xs.length) := othL_len _ _
  have HML : Hid ((mvL es n).length = n) := mvL_len _ _
  have hcap := h.cap
  have hmax := h.max
  have hcapE := he.cap
  have hmaxE := he.max
  have hlen := he.len
  have HLN : Hid (es.length = n) := hlen
  clear hg h hF he hF' hok hlen
  generalize othL xs xs.length = os at *
  generalize mvL es n = mv at *
  have o1 := HO.out w (Kept.refl _ _)
  go_enter Tryz.func15, Tryz.ntmps15
  go_upto_region 2 with (go_at_call 26; refine o1.mono ?_; rintro e w1 ⟨oa, oc, rfl, so, bo, mo, k1⟩; have H1 : Hid (Sv w1 (fun k => Bk9 oa k) oa os.length oc os ∧ (∀ k, Bk9 oa k → k < w1.heap.size) ∧ Kept No w w1) := ⟨so, fun k e => (bo k e).2, k1⟩; clear so bo mo k1 o1)
  have o2 := HO.out w1 H1.out.2.2
  go_upto_region 3 with (go_at_call 26; refine o2.mono ?_; rintro e w2 ⟨ga, gc, rfl, sg, bg, mg, k2⟩; have H2 : Hid (Sv w2 (fun k => Bk9 ga k) ga os.length gc os ∧ (∀ k, Bk9 ga k → w1.heap.size ≤ k ∧ k < w2.heap.size) ∧ ((ga = none ∧ xs.length = 0) ∨ ∃ g f, ga = some ⟨g, 0, none⟩ ∧ Mf w2 g xs.length f ∧ Fz w2 g) ∧ Kept No w1 w2 ∧ Kept No w w2) := ⟨sg, bg, mg, k2, H1.out.2.2.trans k2 (fun _ h => h.elim)⟩; clear sg bg mg k2 o2)
  have o3 := HM.out w2 H2.out.2.2.2.2
  go_upto_region 4 with (go_at_call 27; refine o3.mono ?_; rintro e w3 ⟨va, vc, rfl, sv, bv, mv', v1, v2, k3⟩; have H3 : Hid (Es w3 (fun k => Bk9 va k) va n vc mv ∧ (∀ k, Bk9 va k → w2.heap.size ≤ k ∧ k < w3.heap.size) ∧ Kept No w2 w3 ∧ Kept No w w3) := ⟨sv, bv, k3, H2.out.2.2.2.2.trans k3 (fun _ h => h.elim)⟩; clear sv bv mv' v1 v2 k3 o3)
  have o4 := HM.out w3 H3.out.2.2.2
  go_upto_region 5 with (go_at_call 27; refine o4.mono ?_; rintro e w4 ⟨ha, hc, rfl, sh, bh, mh, h1, h2, k4⟩; have H4 : Hid (Es w4 (fun k => Bk9 ha k) ha n hc mv ∧ (∀ k, Bk9 ha k → w3.heap.size ≤ k ∧ k < w4.heap.size) ∧ ((ha = none ∧ n = 0 ∧ hc = 0) ∨ ∃ g, ha = some ⟨g, 0, none⟩ ∧ Me w4 g n (fun i => mv.getD i dEvt)) ∧ Kept No w3 w4 ∧ Kept No w w4 ∧ n ≤ hc ∧ hc ≤ 9223372036854775807) := ⟨sh, bh, mh, k4, H3.out.2.2.2.trans k4 (fun _ h => h.elim), h1, h2⟩; clear sh bh mh k4 o4)
  -- everything at w4
  have HB : Hid (w.heap.size ≤ w1.heap.size ∧ w1.heap.size ≤ w2.heap.size ∧ w2.heap.size ≤ w3.heap.size ∧ w3.heap.size ≤ w4.heap.size) := ⟨H1.out.2.2.size, H2.out.2.2.2.1.size, H3.out.2.2.1.size, H4.out.2.2.2.1.size⟩
  have HW4 : Hid (∀ W, Kept No w4 W → Gl W ∧ Sv W (fun k => Bk9 ga k) ga os.length gc os ∧ (∀ k, Bk9 ga k → k < W.heap.size) ∧ Es W (fun k => Bk9 ha k) ha n hc mv ∧ (∀ k, Bk9 ha k → k < W.heap.size)) := fun W k => by
    have k23 : Kept No w2 w4 := H3.out.2.2.1.trans H4.out.2.2.2.1 (fun _ h => h.elim)
    refine ⟨HS.out.1.kept (H4.out.2.2.2.2.1.trans k (fun _ h => h.elim)), (H2.out.1.keep k23).keep k, fun j e => ?_, H4.out.1.keep k, fun j e => ?_⟩
    · have := (H2.out.2.1 j e).2; have := k23.size; have := k.size; omega
    · have := (H4.out.2.1 j e).2; have := k.size; omega
  have c1 := used_all fr be w4 (HW4.out w4 (Kept.refl _ _)).1 (HW4.out w4 (Kept.refl _ _)).2.1 (HW4.out w4 (Kept.refl _ _)).2.2.1
  go_upto_region 6 with (go_at_call 5; refine c1.mono ?_; rintro e w5 ⟨a1, rfl, r1, k5⟩; have H5 : Hid (Kept No w4 w5 ∧ Rw9 w5 w4.heap.size a1 (uN os fr be) (uF os fr be)) := ⟨k5, r1⟩; clear k5 c1 r1)
  have c2 := shares_all w5 (HW4.out w5 H5.out.1).1 (HW4.out w5 H5.out.1).2.1 (HW4.out w5 H5.out.1).2.2.1
  go_upto_region 7 with (go_at_call 7; refine c2.mono ?_; rintro e w6 ⟨a2, rfl, r2, k6⟩; have H6 : Hid (Kept No w4 w6 ∧ Rw9 w6 w4.heap.size a1 (uN os fr be) (uF os fr be) ∧ Rw9 w6 w4.heap.size a2 (sN os) (sF os)) := ⟨H5.out.1.trans k6 (fun _ h => h.elim), H5.out.2.keep k6, r2.low H5.out.1.size⟩; clear k6 c2 r2 H5)
  have c3 := counts_all p w6 (HW4.out w6 H6.out.1).2.2.2.1 (HW4.out w6 H6.out.1).2.2.2.2
  go_upto_region 8 with (go_at_call 9; refine c3.mono ?_; rintro e w7 ⟨a3, rfl, r3, k7⟩; have H7 : Hid (Kept No w4 w7 ∧ Rw9 w7 w4.heap.size a1 (uN os fr be) (uF os fr be) ∧ Rw9 w7 w4.heap.size a2 (sN os) (sF os) ∧ Rw9 w7 w4.heap.size a3 12 (ctE mv p n)) := ⟨H6.out.1.trans k7 (fun _ h => h.elim), H6.out.2.1.keep k7, H6.out.2.2.keep k7, r3.low H6.out.1.size⟩; clear k7 c3 r3 H6)
  -- the servers into g
  have HG0 : Hid ((ga = none ∧ xs.length = 0) ∨ ∃ g f, ga = some ⟨g, 0, none⟩ ∧ Mf w7 g xs.length f ∧ Fz w7 g ∧ g < w4.heap.size ∧ w1.heap.size ≤ g) := by
    rcases H2.out.2.2.1 with hh | ⟨g, f, e, m, z⟩
    · exact .inl hh
    · have hgl := H2.out.2.1 g e
      have k27 : Kept No w2 w7 := (H3.out.2.2.1.trans H4.out.2.2.2.1 (fun _ h => h.elim)).trans H7.out.1 (fun _ h => h.elim)
      refine .inr ⟨g, f, e, m.kept k27 (fun h => h), fun i => ?_, by have := HB.out; omega, hgl.1⟩
      have eb := k27.block g hgl.2 (fun h => h)
      have := z i
      simp only [World.frozen?] at this ⊢
      rw [eb]; exact this
  have hol := HLL.out
  have hcapG : xs.length ≤ gc := by have := H2.out.1.cap; omega
  have hmaxG := H2.out.1.max
  rw [hol] at *
  have KW7 : Hid (Kept No w w7) := H4.out.2.2.2.2.1.trans H7.out.1 (fun _ h => h.elim)
  go_wp2
  go_loopw [20] (fun x wr => ∃ k : Nat, k ≤ xs.length ∧ x = .int .i64 k ∧ ((ga = none ∧ xs.length = 0) ∨ ∃ (g : Nat) (f : Nat → Srv), ga = some ⟨g, 0, none⟩ ∧ Mf wr g xs.length (fun i => if i < k then xs.getD i ⟨0, 0, 0, 0⟩ else f i) ∧ Fz wr g ∧ g < w4.heap.size ∧ w1.heap.size ≤ g) ∧ Kept (fun j => Bk9 ga j) w7 wr) (fun x _ => xs.length - (intOf x).toNat)
  case atStart =>
    refine ⟨0, Nat.zero_le _, rfl, ?_, Kept.refl _ _⟩
    rcases HG0.out with hh | ⟨g, f, e, m, r⟩
    · exact .inl hh
    · exact .inr ⟨g, f, e, m.ext (fun i hi => by simp), r⟩
  case round =>
    obtain ⟨k, hk, rfl, hmf, hkr⟩ := hrel
    by_cases hlt : k < xs.length
    · have hltz : (k : Int) < (xs.length : Int) := by omega
      rcases hmf with ⟨_, h0⟩ | ⟨g, f, rfl, hm, hz, hg1, hg2⟩
      · omega
      have hx : xs[k]? = some (xs.getD k ⟨0, 0, 0, 0⟩) := by rw [List.getD, List.getElem?_eq_getElem hlt]; rfl
      obtain ⟨_, b, o, rfl, hb, e0, e1, e2, e3⟩ := ((HS.out.2.1.keep KW7.out).kept hkr (fun j hj e => by injection e with e; injection e with e _ _; have := HS.out.2.2.1 j hj; have := HB.out; omega)).at' k _ hx
      obtain ⟨c0, c1, c2, c3⟩ := hm k hlt
      have f0 := hz (k * 4)
      have f1 := hz (k * 4 + 1)
      have f2 := hz (k * 4 + 2)
      have f3 := hz (k * 4 + 3)
      have HN : Hid (Mf ((((wr.setCell ⟨g, k * 4, none⟩ (.int .i64 (xs.getD k ⟨0, 0, 0, 0⟩).p)).setCell ⟨g, k * 4 + 1, none⟩ (.int .i64 (xs.getD k ⟨0, 0, 0, 0⟩).b)).setCell ⟨g, k * 4 + 2, none⟩ (.int .i64 (xs.getD k ⟨0, 0, 0, 0⟩).o)).setCell ⟨g, k * 4 + 3, none⟩ (.int .i64 (xs.getD k ⟨0, 0, 0, 0⟩).q)) g xs.length (fun i => if i < k + 1 then xs.getD i ⟨0, 0, 0, 0⟩ else f i) ∧ Fz ((((wr.setCell ⟨g, k * 4, none⟩ (.int .i64 (xs.getD k ⟨0, 0, 0, 0⟩).p)).setCell ⟨g, k * 4 + 1, none⟩ (.int .i64 (xs.getD k ⟨0, 0, 0, 0⟩).b)).setCell ⟨g, k * 4 + 2, none⟩ (.int .i64 (xs.getD k ⟨0, 0, 0, 0⟩).o)).setCell ⟨g, k * 4 + 3, none⟩ (.int .i64 (xs.getD k ⟨0, 0, 0, 0⟩).q)) g ∧ Kept (fun j => Bk9 (some ⟨g, 0, none⟩) j) w7 ((((wr.setCell ⟨g, k * 4, none⟩ (.int .i64 (xs.getD k ⟨0, 0, 0, 0⟩).p)).setCell ⟨g, k * 4 + 1, none⟩ (.int .i64 (xs.getD k ⟨0, 0, 0, 0⟩).b)).setCell ⟨g, k * 4 + 2, none⟩ (.int .i64 (xs.getD k ⟨0, 0, 0, 0⟩).o)).setCell ⟨g, k * 4 + 3, none⟩ (.int .i64 (xs.getD k ⟨0, 0, 0, 0⟩).q))) := by
        refine ⟨(hm.put k (xs.getD k ⟨0, 0, 0, 0⟩)).ext (fun i hi => ?_), fun i => by rw [World.frozen?_setCell, World.frozen?_setCell, World.frozen?_setCell, World.frozen?_setCell]; exact hz i, hkr.trans (put4_kept wr g k _) (fun j e => .inl (by have e' : j = g := e; rw [e']; rfl))⟩
        by_cases e : i = k
        · rw [if_pos e, if_pos (by omega), e]
        · rw [if_neg e]
          by_cases e2 : i < k
          · rw [if_pos e2, if_pos (by omega)]
          · rw [if_neg e2, if_neg (by omega)]
      have ek : (fun i => if i < k then xs.getD i ⟨0, 0, 0, 0⟩ else f i) k = f k := if_neg (Nat.lt_irrefl k)
      rw [ek] at c0 c1 c2 c3
      have HGB := hid (And.intro hg1 (And.intro hg2 hk))
      clear ek hm hz hkr hx hg1 hg2 hk
      generalize xs.getD k ⟨0, 0, 0, 0⟩ = y at *
      obtain ⟨yp, yb, yo, yq⟩ := y
      simp only at e0 e1 e2 e3 HN
      generalize (f k).p = fp at *
      generalize (f k).b = fb at *
      generalize (f k).o = fo at *
      generalize (f k).q = fq at *
      go_wp2
      go_roundw
      case rel => exact ⟨k + 1, by omega, by go_num, .inr ⟨g, f, rfl, HN.out.1, HN.out.2.1, HGB.out.1, HGB.out.2.1⟩, HN.out.2.2⟩
      case measure => simp [intOf]; omega
    · have hltz : ¬ (k : Int) < (xs.length : Int) := by omega
      have HX : Hid (Sv wr (fun k => Bk9 ga k) ga xs.length gc xs ∧ Kept (fun j => Bk9 ga j) w7 wr) := by
        refine ⟨?_, hkr⟩
        rcases hmf with ⟨rfl, h0⟩ | ⟨g, f, rfl, hm, hz, hg1, hg2⟩
        · have hgc : gc = 0 := H2.out.1.nil rfl
          have hxs : xs = [] := List.eq_nil_of_length_eq_zero h0
          subst hxs hgc
          exact ⟨rfl, Nat.le_refl _, by omega, fun _ => rfl, fun i x hx => by cases hx⟩
        · have hsv := (hm.ext (f' := fun i => xs.getD i ⟨0, 0, 0, 0⟩) (fun i hi => if_pos (by omega))).sv xs.length gc (Nat.le_refl _) hcapG hmaxG (fun i hi => HS.out.2.1.ok i hi)
          have el : (List.range xs.length).map (fun i => xs.getD i ⟨0, 0, 0, 0⟩) = xs := by
            apply List.ext_getElem (by simp)
            intro i h1 h2
            simp at h1
            simp [h1]
          rw [el] at hsv
          exact ⟨hsv.len, hsv.cap, hsv.max, hsv.nil, fun i x hx => by obtain ⟨q1, b, o, e, hb, r⟩ := hsv.at' i x hx; have hb' : b = g := hb; subst hb'; exact ⟨q1, b, o, e, rfl, r⟩⟩
      clear hmf hkr hk hlt
      generalize wr = w8 at *
      have HM0 : Hid ((ha = none ∧ n = 0 ∧ hc = 0) ∨ ∃ g, ha = some ⟨g, 0, none⟩ ∧ w3.heap.size ≤ g ∧ g < w4.heap.size ∧ Me w8 g n (fun i => mv.getD i dEvt)) := by
        rcases H4.out.2.2.1 with hh | ⟨g, rfl, m⟩
        · exact .inl hh
        · have hgl := H4.out.2.1 g rfl
          exact .inr ⟨g, rfl, hgl.1, hgl.2, (m.kept H7.out.1 (fun h => h)).kept HX.out.2 (fun e => by have := H2.out.2.1 g e; have := HB.out; omega)⟩
      have hcapH := H4.out.2.2.2.2.2.1
      have hmaxH := H4.out.2.2.2.2.2.2
      have KE8 : Hid (Es w8 F' ea n ec es) := (HS.out.2.2.2.1.keep KW7.out).kept HX.out.2 (fun j hj e => by have := HS.out.2.2.2.2 j hj; have := H2.out.2.1 j e; have := HB.out; omega)
      go_wp2
      go_loopw [21] (fun x wr => ∃ k : Nat, k ≤ n ∧ x = .int .i64 k ∧ ((ha = none ∧ n = 0 ∧ hc = 0) ∨ ∃ g : Nat, ha = some ⟨g, 0, none⟩ ∧ w3.heap.size ≤ g ∧ g < w4.heap.size ∧ Me wr g n (fun i => if i < k then es.getD i dEvt else mv.getD i dEvt)) ∧ Kept (fun j => Bk9 ha j) w8 wr) (fun x _ => n - (intOf x).toNat)
      case atStart =>
        refine ⟨0, Nat.zero_le _, rfl, ?_, Kept.refl _ _⟩
        rcases HM0.out with hh | ⟨g, e, q1, q2, m⟩
        · exact .inl hh
        · exact .inr ⟨g, e, q1, q2, m.congr (fun i hi => by simp)⟩
      case round =>
        obtain ⟨k, hk, rfl, hmf, hkr⟩ := hrel
        by_cases hlt : k < n
        · have hltz : (k : Int) < (n : Int) := by omega
          rcases hmf with ⟨_, h0, _⟩ | ⟨g, rfl, hg1, hg2, hm⟩
          · omega
          obtain ⟨b, o, rfl, _, hc⟩ := (KE8.out.kept hkr (fun j hj e => by injection e with e; injection e with e _ _; have := HS.out.2.2.2.2 j hj; have := HB.out; omega)).at' k hlt
          have HN : Hid (Me (putE7 wr g k (es.getD k dEvt)) g n (fun i => if i < k + 1 then es.getD i dEvt else mv.getD i dEvt) ∧ Kept (fun j => Bk9 (some ⟨g, 0, none⟩) j) w8 (putE7 wr g k (es.getD k dEvt))) := by
            refine ⟨(hm.put k (es.getD k dEvt)).congr (fun i hi => ?_), hkr.trans (putE7_kept wr g k _) (fun j e => .inl (by have e' : j = g := e; rw [e']; rfl))⟩
            by_cases e : i = k
            · rw [if_pos e, if_pos (by omega), e]
            · rw [if_neg e]
              by_cases e2 : i < k
              · rw [if_pos e2, if_pos (by omega)]
              · rw [if_neg e2, if_neg (by omega)]
          have hold : ∀ j, j < 7 → ∃ u, wr.cell? ⟨g, k * 7 + j, none⟩ = some u := fun j hj => ⟨_, hm.at' k j _ hlt (List.getElem?_eq_getElem (by rw [v_len]; exact hj))⟩
          obtain ⟨z0, y0⟩ := hold 0 (by omega)
          obtain ⟨z1, y1⟩ := hold 1 (by omega)
          obtain ⟨z2, y2⟩ := hold 2 (by omega)
          obtain ⟨z3, y3⟩ := hold 3 (by omega)
          obtain ⟨z4, y4⟩ := hold 4 (by omega)
          obtain ⟨z5, y5⟩ := hold 5 (by omega)
          obtain ⟨z6, y6⟩ := hold 6 (by omega)
          rw [Nat.add_zero] at y0
          have f0 := hm.fz (k * 7)
          have f1 := hm.fz (k * 7 + 1)
          have f2 := hm.fz (k * 7 + 2)
          have f3 := hm.fz (k * 7 + 3)
          have f4 := hm.fz (k * 7 + 4)
          have f5 := hm.fz (k * 7 + 5)
          have f6 := hm.fz (k * 7 + 6)
          have HGB := hid (And.intro hg1 (And.intro hg2 hk))
          clear hm hkr hold hg1 hg2 hk
          generalize es.getD k dEvt = x at *
          obtain ⟨xt, xp, xk, xr, xa, xb, xda, xdn, xdc⟩ := x
          have r0 := hc 0 _ rfl
          have r1 := hc 1 _ rfl
          have r2 := hc 2 _ rfl
          have r3 := hc 3 _ rfl
          have r4 := hc 4 _ rfl
          have r5 := hc 5 _ rfl
          have r6 := hc 6 _ rfl
          rw [Nat.add_zero] at r0
          simp only at r0 r1 r2 r3 r4 r5 r6
          clear hc
          go_wp2
          go_roundw
          case rel => exact ⟨k + 1, by omega, by go_num, .inr ⟨g, rfl, HGB.out.1, HGB.out.2.1, HN.out.1⟩, HN.out.2⟩
          case measure => simp [intOf]; omega
        · have hltz : ¬ (k : Int) < (n : Int) := by omega
          have HY : Hid (Es wr (fun k => Bk9 ha k) ha n hc es ∧ Kept (fun j => Bk9 ha j) w8 wr) := by
            refine ⟨?_, hkr⟩
            rcases hmf with ⟨rfl, q0, q1⟩ | ⟨g, rfl, hg1, hg2, hm⟩
            · have hes : es = [] := List.eq_nil_of_length_eq_zero (by rw [HLN.out]; exact q0)
              rw [hes, q0, q1]
              exact es_nil _ _
            · exact Me.esB es (hm.congr (f' := fun i => es.getD i dEvt) (fun i hi => if_pos (by omega))) HLN.out hcapH hmaxH
          clear hmf hkr hk hlt
          generalize wr = w9 at *
          have H9 : Hid (Kept No w w9 ∧ (Sv w9 (fun k => Bk9 ga k) ga xs.length gc xs ∧ (∀ k, Bk9 ga k → k < w9.heap.size)) ∧ (∀ k, Bk9 ha k → k < w9.heap.size) ∧ (Sv w9 F a xs.length c xs ∧ (∀ k, F k → k < w9.heap.size)) ∧ Es w9 F' ea n ec es ∧ (Sv w9 (fun k => Bk9 oa k) oa os.length oc os ∧ (∀ k, Bk9 oa k → k < w9.heap.size)) ∧ Es w9 (fun k => Bk9 va k) va n vc mv ∧ Rw9 w9 w4.heap.size a1 (uN os fr be) (uF os fr be) ∧ Rw9 w9 w4.heap.size a2 (sN os) (sF os) ∧ Rw9 w9 w4.heap.size a3 12 (ctE mv p n)) := by
            have b := HB.out
            have s4 := H7.out.1.size
            have s8 := HX.out.2.size
            have s9 := HY.out.2.size
            have gB := H2.out.2.1
            have hB := H4.out.2.1
            have kA := HX.out.2
            have kB := HY.out.2
            have k17 : Kept No w1 w7 := ((H2.out.2.2.2.1.trans H3.out.2.2.1 (fun _ h => h.elim)).trans H4.out.2.2.2.1 (fun _ h => h.elim)).trans H7.out.1 (fun _ h => h.elim)
            have k37 : Kept No w3 w7 := H4.out.2.2.2.1.trans H7.out.1 (fun _ h => h.elim)
            refine ⟨(KW7.out.trans kA (fun j e => .inr (by have := gB j e; omega))).trans kB (fun j e => .inr (by have := hB j e; omega)), ⟨HX.out.1.kept kB (fun j e1 e2 => by have := gB j e1; have := hB j e2; omega), fun j e => by have := gB j e; omega⟩, fun j e => by have := hB j e; omega, ⟨((HS.out.2.1.keep KW7.out).kept kA (fun j hj e => by have := HS.out.2.2.1 j hj; have := gB j e; omega)).kept kB (fun j hj e => by have := HS.out.2.2.1 j hj; have := hB j e; omega), fun j hj => by have := HS.out.2.2.1 j hj; omega⟩, KE8.out.kept kB (fun j hj e => by have := HS.out.2.2.2.2 j hj; have := hB j e; omega), ⟨((H1.out.1.keep k17).kept kA (fun j e1 e2 => by have := H1.out.2.1 j e1; have := gB j e2; omega)).kept kB (fun j e1 e2 => by have := H1.out.2.1 j e1; have := hB j e2; omega), fun j e => by have := H1.out.2.1 j e; omega⟩, ((H3.out.1.keep k37).kept kA (fun j e1 e2 => by have := H3.out.2.1 j e1; have := gB j e2; omega)).kept kB (fun j e1 e2 => by have := H3.out.2.1 j e1; have := hB j e2; omega), (H7.out.2.1.kept kA (fun j e1 e2 => ?_)).kept kB (fun j e1 e2 => ?_), (H7.out.2.2.1.kept kA (fun j e1 e2 => ?_)).kept kB (fun j e1 e2 => ?_), (H7.out.2.2.2.kept kA (fun j e1 e2 => ?_)).kept kB (fun j e1 e2 => ?_)⟩
            · have := H7.out.2.1.bk e1; have := gB j e2; omega
            · have := H7.out.2.1.bk e1; have := hB j e2; omega
            · have := H7.out.2.2.1.bk e1; have := gB j e2; omega
            · have := H7.out.2.2.1.bk e1; have := hB j e2; omega
            · have := H7.out.2.2.2.bk e1; have := gB j e2; omega
            · have := H7.out.2.2.2.bk e1; have := hB j e2; omega
          have HGL : Hid (∀ W, Kept No w9 W → Gl W) := fun W k => HS.out.1.kept (H9.out.1.trans k (fun _ h => h.elim))
          have CU : Hid (∀ W, Kept No w9 W → Calls Tryz.prog 5 #[.slice ga xs.length gc, .int .i64 fr, .int .i64 be] W fun e w' => ∃ ra, e = .returned (.tuple #[.slice ra (uN xs fr be) (uN xs fr be), .int .i64 (uE xs fr be)]) ∧ Rw9 w' W.heap.size ra (uN xs fr be) (uF xs fr be) ∧ Kept No W w') := fun W k => used_all fr be W (HGL.out W k) (H9.out.2.1.1.keep k) (fun j e => Nat.lt_of_lt_of_le (H9.out.2.1.2 j e) k.size)
          have CS : Hid (∀ W, Kept No w9 W → Calls Tryz.prog 7 #[.slice ga xs.length gc] W fun e w' => ∃ ra, e = .returned (.tuple #[.slice ra (sN xs) (sN xs), .int .i64 (sE xs)]) ∧ Rw9 w' W.heap.size ra (sN xs) (sF xs) ∧ Kept No W w') := fun W k => shares_all W (HGL.out W k) (H9.out.2.1.1.keep k) (fun j e => Nat.lt_of_lt_of_le (H9.out.2.1.2 j e) k.size)
          have CC : Hid (∀ W, Kept No w9 W → Calls Tryz.prog 9 #[.slice ha n hc, .int .i64 p] W fun e w' => ∃ ra, e = .returned (.slice ra 12 12) ∧ Rw9 w' W.heap.size ra 12 (ctE es p n) ∧ Kept No W w') := fun W k => counts_all p W (HY.out.1.keep k) (fun j e => Nat.lt_of_lt_of_le (H9.out.2.2.1 j e) k.size)
          have R1 : Hid (∀ W, Kept No w9 W → Calls Tryz.prog 6 #[.slice oa xs.length oc, .int .i64 fr, .int .i64 be] W fun e w' => ∃ ra rc, e = .returned (.tuple #[.slice ra (uN os fr be) rc, .int .i64 (uE os fr be)]) ∧ Nm w' (fun k => W.heap.size ≤ k ∧ k < w'.heap.size) ra (uN os fr be) rc (uF os fr be) ∧ Kept No W w') := fun W k => by
            rw [← HLL.out]; exact refUsed_any fr be W (H9.out.2.2.2.2.2.1.1.keep k) (fun j e => Nat.lt_of_lt_of_le (H9.out.2.2.2.2.2.1.2 j e) k.size)
          have R2 : Hid (∀ W, Kept No w9 W → Calls Tryz.prog 8 #[.slice oa xs.length oc] W fun e w' => ∃ ra rc, e = .returned (.tuple #[.slice ra (sN os) rc, .int .i64 (sE os)]) ∧ Nm w' (fun k => W.heap.size ≤ k ∧ k < w'.heap.size) ra (sN os) rc (sF os) ∧ Kept No W w') := fun W k => by
            rw [← HLL.out]; exact refShares_any W (H9.out.2.2.2.2.2.1.1.keep k) (fun j e => Nat.lt_of_lt_of_le (H9.out.2.2.2.2.2.1.2 j e) k.size)
          have R3 : Hid (∀ W, Kept No w9 W → Calls Tryz.prog 10 #[.slice va n vc, .int .i64 p] W fun e w' => ∃ ra rc, e = .returned (.slice ra 12 rc) ∧ Nm w' (fun k => W.heap.size ≤ k ∧ k < w'.heap.size) ra 12 rc (ctE mv p n) ∧ Kept No W w') := fun W k => refCounts_any p W (H9.out.2.2.2.2.2.2.1.keep k)
          have S1 : Hid (∀ W, Kept No w9 W → Calls Tryz.prog 6 #[.slice a xs.length c, .int .i64 fr, .int .i64 be] W fun e w' => ∃ ra rc, e = .returned (.tuple #[.slice ra (uN xs fr be) rc, .int .i64 (uE xs fr be)]) ∧ Nm w' (fun k => W.heap.size ≤ k ∧ k < w'.heap.size) ra (uN xs fr be) rc (uF xs fr be) ∧ Kept No W w') := fun W k => refUsed_any fr be W (H9.out.2.2.2.1.1.keep k) (fun j e => Nat.lt_of_lt_of_le (H9.out.2.2.2.1.2 j e) k.size)
          have S2 : Hid (∀ W, Kept No w9 W → Calls Tryz.prog 8 #[.slice a xs.length c] W fun e w' => ∃ ra rc, e = .returned (.tuple #[.slice ra (sN xs) rc, .int .i64 (sE xs)]) ∧ Nm w' (fun k => W.heap.size ≤ k ∧ k < w'.heap.size) ra (sN xs) rc (sF xs) ∧ Kept No W w') := fun W k => refShares_any W (H9.out.2.2.2.1.1.keep k) (fun j e => Nat.lt_of_lt_of_le (H9.out.2.2.2.1.2 j e) k.size)
          have S3 : Hid (∀ W, Kept No w9 W → Calls Tryz.prog 10 #[.slice ea n ec, .int .i64 p] W fun e w' => ∃ ra rc, e = .returned (.slice ra 12 rc) ∧ Nm w' (fun k => W.heap.size ≤ k ∧ k < w'.heap.size) ra 12 rc (ctE es p n) ∧ Kept No W w') := fun W k => refCounts_any p W (H9.out.2.2.2.2.1.keep k)
          have HA : Hid (Kept No w w9 ∧ Nm w9 (fun k => True) a1 (uN os fr be) (uN os fr be) (uF os fr be) ∧ Nm w9 (fun k => True) a2 (sN os) (sN os) (sF os) ∧ Nm w9 (fun k => True) a3 12 12 (ctE mv p n)) := ⟨H9.out.1, H9.out.2.2.2.2.2.2.2.1.nm.mono (fun _ _ => trivial), H9.out.2.2.2.2.2.2.2.2.1.nm.mono (fun _ _ => trivial), H9.out.2.2.2.2.2.2.2.2.2.nm.mono (fun _ _ => trivial)⟩
          have q1 := uN_32 xs fr be
          have q2 := uN_32 os fr be
          have q3 := sN_32 xs
          have q4 := sN_32 os
          clear H1 H2 H3 H4 H7 HX HY KE8 HM0 HG0 KW7 HB HW4 H9 HGL HO HM HS HLL HML HLN
          generalize uN xs fr be = N1 at *
          generalize uE xs fr be = E1 at *
          generalize uF xs fr be = f1 at *
          generalize uN os fr be = N2 at *
          generalize uE os fr be = E2 at *
          generalize uF os fr be = f2 at *
          generalize sN xs = N3 at *
          generalize sE xs = E3 at *
          generalize sF xs = f3 at *
          generalize sN os = N4 at *
          generalize sE os = E4 at *
          generalize sF os = f4 at *
          generalize ctE mv p n = f5 at *
          generalize ctE es p n = f6 at *
          have d1 := CU.out w9 (Kept.refl _ _)
          go_upto_region 17 with (go_at_call 5; refine d1.mono ?_; rintro e w10 ⟨b1, rfl, r1, k10⟩; have K10 : Hid (Kept No w9 w10 ∧ Nm w10 (fun _ => True) b1 N1 N1 f1) := ⟨k10, r1.nm.mono (fun _ _ => trivial)⟩; clear k10 d1 r1)
          have d2 := CS.out w10 K10.out.1
          go_upto_region 18 with (go_at_call 7; refine d2.mono ?_; rintro e w11 ⟨b2, rfl, r1, k11⟩; have K11 : Hid (Kept No w9 w11 ∧ Nm w11 (fun _ => True) b1 N1 N1 f1 ∧ Nm w11 (fun _ => True) b2 N3 N3 f3) := ⟨K10.out.1.trans k11 (fun _ h => h.elim), K10.out.2.keep k11, r1.nm.mono (fun _ _ => trivial)⟩; clear k11 d2 r1)
          have d3 := CC.out w11 K11.out.1
          go_upto_region 19 with (go_at_call 9; refine d3.mono ?_; rintro e w12 ⟨b3, rfl, r1, k12⟩; have K12 : Hid (Kept No w9 w12 ∧ Nm w12 (fun _ => True) b1 N1 N1 f1 ∧ Nm w12 (fun _ => True) b2 N3 N3 f3 ∧ Nm w12 (fun _ => True) b3 12 12 f6) := ⟨K11.out.1.trans k12 (fun _ h => h.elim), K11.out.2.1.keep k12, K11.out.2.2.keep k12, r1.nm.mono (fun _ _ => trivial)⟩; clear k12 d3 r1)
          clear K10 K11 CU CS CC
          have d4 := R1.out w12 K12.out.1
          go_upto_region 20 with (go_at_call 6; refine d4.mono ?_; rintro e w13 ⟨p1, u1, rfl, r1, k13⟩; have K13 : Hid (Kept No w12 w13 ∧ Nm w13 (fun _ => True) p1 N2 u1 f2) := ⟨k13, r1.mono (fun _ _ => trivial)⟩; clear k13 d4 r1)
          have d5 := R2.out w13 (K12.out.1.trans K13.out.1 (fun _ h => h.elim))
          go_upto_region 21 with (go_at_call 8; refine d5.mono ?_; rintro e w14 ⟨p2, u2, rfl, r1, k14⟩; have K14 : Hid (Kept No w12 w14 ∧ Nm w14 (fun _ => True) p1 N2 u1 f2 ∧ Nm w14 (fun _ => True) p2 N4 u2 f4) := ⟨K13.out.1.trans k14 (fun _ h => h.elim), K13.out.2.keep k14, r1.mono (fun _ _ => trivial)⟩; clear k14 d5 r1)
          have K9e : Hid (Kept No w9 w14) := K12.out.1.trans K14.out.1 (fun _ h => h.elim)
          have t1 := sameI_yes w14 (HA.out.2.1.keep K9e.out) K14.out.2.1
          have T2 : Hid (∀ W, Kept No w14 W → Calls Tryz.prog 11 #[.slice a2 N4 N4, .slice p2 N4 u2] W fun e w' => e = .returned (.bool true) ∧ Kept No W w') := fun W k => sameI_yes W ((HA.out.2.2.1.keep K9e.out).keep k) (K14.out.2.2.keep k)
          have HA3 : Hid (∀ W, Kept No w14 W → Nm W (fun k => True) a3 12 12 f5) := fun W k => (HA.out.2.2.2.keep K9e.out).keep k
          go_upto_region 23 with (first
            | (go_at_call 11; refine t1.mono ?_; rintro e w15 ⟨rfl, k15⟩; have K15 : Hid (Kept No w14 w15) := k15; have t2 := T2.out w15 k15; clear k15 t1)
            | (go_at_call 11; refine t2.mono ?_; rintro e w16 ⟨rfl, k16⟩; have K16 : Hid (Kept No w14 w16) := K15.out.trans k16 (fun _ h => h.elim); have t3 := R3.out w16 (K9e.out.trans K16.out (fun _ h => h.elim)); clear k16 t2)
            | (go_at_call 10; refine t3.mono ?_; rintro e w17 ⟨p3, u3, rfl, r1, k17⟩; have K17 : Hid (Kept No w14 w17) := K16.out.trans k17 (fun _ h => h.elim); have t4 := sameI_yes w17 (HA3.out w17 K17.out) (r1.mono (H := fun _ => True) (fun _ _ => trivial)); clear k17 t3 r1)
            | (go_at_call 11; refine t4.mono ?_; rintro e w18 ⟨rfl, k18⟩; have K18 : Hid (Kept No w12 w18) := (K14.out.1.trans K17.out (fun _ h => h.elim)).trans k18 (fun _ h => h.elim); clear k18 t4))
          clear K13 K14 K15 K16 K17 T2 HA3 R1 R2 R3 K9e
          have d6 := S1.out w18 (K12.out.1.trans K18.out (fun _ h => h.elim))
          go_upto_region 24 with (go_at_call 6; refine d6.mono ?_; rintro e w19 ⟨q1', x1, rfl, r1, k19⟩; have K19 : Hid (Kept No w12 w19 ∧ Nm w19 (fun _ => True) q1' N1 x1 f1) := ⟨K18.out.trans k19 (fun _ h => h.elim), r1.mono (fun _ _ => trivial)⟩; clear k19 d6 r1)
          have d7 := S2.out w19 (K12.out.1.trans K19.out.1 (fun _ h => h.elim))
          go_upto_region 25 with (go_at_call 8; refine d7.mono ?_; rintro e w20 ⟨q2', x2, rfl, r1, k20⟩; have K20 : Hid (Kept No w12 w20 ∧ Nm w20 (fun _ => True) q1' N1 x1 f1 ∧ Nm w20 (fun _ => True) q2' N3 x2 f3) := ⟨K19.out.1.trans k20 (fun _ h => h.elim), K19.out.2.keep k20, r1.mono (fun _ _ => trivial)⟩; clear k20 d7 r1)
          have t1 := sameI_yes w20 (K12.out.2.1.keep K20.out.1) K20.out.2.1
          have T2 : Hid (∀ W, Kept No w20 W → Calls Tryz.prog 11 #[.slice b2 N3 N3, .slice q2' N3 x2] W fun e w' => e = .returned (.bool true) ∧ Kept No W w') := fun W k => sameI_yes W ((K12.out.2.2.1.keep K20.out.1).keep k) (K20.out.2.2.keep k)
          go_wp2_with (first
            | (go_at_call 11; refine t1.mono ?_; rintro e w21 ⟨rfl, k21⟩; have K21 : Hid (Kept No w20 w21) := k21; have t2 := T2.out w21 k21; clear k21 t1)
            | (go_at_call 11; refine t2.mono ?_; rintro e w22 ⟨rfl, k22⟩; have K22 : Hid (Kept No w12 w22) := (K20.out.1.trans K21.out (fun _ h => h.elim)).trans k22 (fun _ h => h.elim); have t3 := S3.out w22 (K12.out.1.trans K22.out (fun _ h => h.elim)); clear k22 t2)
            | (go_at_call 10; refine t3.mono ?_; rintro e w23 ⟨q3', x3, rfl, r1, k23⟩; have K23 : Hid (Kept No w12 w23) := K22.out.trans k23 (fun _ h => h.elim); have t4 := sameI_yes w23 (K12.out.2.2.2.keep K23.out) (r1.mono (H := fun _ => True) (fun _ _ => trivial)); clear k23 t3 r1)
            | (go_at_call 11; refine t4.mono ?_; rintro e w24 ⟨rfl, k24⟩; have K24 : Hid (Kept No w12 w24) := K23.out.trans k24 (fun _ h => h.elim); clear k24 t4))
          go_ret
          exact ⟨rfl, (HA.out.1.trans K12.out.1 (fun _ h => h.elim)).trans K24.out (fun _ h => h.elim)⟩
end Go.Proofs.YtibmgpinfdcaoaaGreatDoor
