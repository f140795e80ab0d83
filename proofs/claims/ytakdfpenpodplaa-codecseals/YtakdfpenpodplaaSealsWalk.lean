/-
  The law CodecSeals, walked.
-/
import Derived.Test.YtakdfpenpodplaaTwice
namespace Go.Proofs.Ytakdfpenpodplaa
open Go.RowKit
set_option linter.unusedVariables false

set_option maxHeartbeats 4000000 in
set_option maxRecDepth 100000 in
theorem codecSeals_walk (G G2 : Nat → Prop) (kind : Nat) (a a2 : Option Addr) (n c n2 k2 : Nat) (xs ss : List Nat) (w : World) (hk : kind < 256) (hb : Bs w G a n c xs) (hs : Bs w G2 a2 n2 k2 ss) (hn : n ≤ 140737488351232) (hn2 : n2 ≤ 140737488351232) :
    Calls Try.prog 4 #[.int .u8 kind, .slice a n c, .slice a2 n2 k2] w fun ex w' => ex = .returned (.bool true) ∧ Below w.heap.size w w' := by
  have HL : Hid (xs.length = n) := hb.len
  have HL2 : Hid (ss.length = n2) := hs.len
  have HXL : Hid (∀ x ∈ xs, x < 256) := hb.lt
  have HSL : Hid (∀ x ∈ ss, x < 256) := hs.lt
  have HB : Hid (Bs w (fun b => b < w.heap.size) a n c xs) := ⟨hb.len, hb.cap, hb.max, hb.nil, fun i hi => by obtain ⟨b, o, e, _, hc⟩ := hb.at' i hi; exact ⟨b, o, e, cell_lt hc, hc⟩, hb.lt⟩
  have HS : Hid (Bs w (fun b => b < w.heap.size) a2 n2 k2 ss) := ⟨hs.len, hs.cap, hs.max, hs.nil, fun i hi => by obtain ⟨b, o, e, _, hc⟩ := hs.at' i hi; exact ⟨b, o, e, cell_lt hc, hc⟩, hs.lt⟩
  have c13 := marked_any G a n c xs w hb (by omega)
  clear hb hs
  go_enter Try.func4, Try.ntmps4
  go_upto_region 2 with (go_at_call 13; refine c13.mono ?_; rintro ex w1 ⟨g1, cap1, rfl, own1, bel1⟩; clear c13)
  have O1 : Hid (w1.ownsRow w.heap.size 5 1 (.slice (some ⟨g1, 0, none⟩) (n + 70) cap1) (n + 70) ((xs ++ List.replicate 70 165).map bv)) := own1
  have B1 : Hid (Below w.heap.size w w1) := bel1
  have c14 := sum_any _ _ _ _ _ w1 (marked_bs own1 HL.out HXL.out)
  have c15 := refSum_any _ _ _ _ _ w1 (HB.out.below bel1)
  have c9 := seal_any _ kind _ _ _ _ w1 hk (marked_bs own1 HL.out HXL.out)
  clear own1 bel1
  go_upto_region 4 with (first | (go_at_call 14; refine c14.mono ?_; rintro ex wq ⟨rfl, hw⟩; obtain rfl := hw.symm) | (go_at_call 15; refine c15.mono ?_; rintro ex wq ⟨rfl, hw⟩; obtain rfl := hw.symm))
  clear c14 c15
  go_upto_region 5 with (go_at_call 9; refine c9.mono ?_; rintro ex w2 ⟨a9, n9, k9, rfl, own9, bel9⟩; clear c9)
  have B2 : Hid (Below w.heap.size w w2) := B1.out.trans (bel9.mono B1.out.size)
  have c16 := refSeal_any _ kind _ _ _ _ w2 hk (HB.out.below B2.out)
  have O9 : Hid (w2.ownsRow w1.heap.size 5 1 (.slice a9 n9 k9) (sealX kind xs).length ((sealX kind xs).map bv)) := own9
  have B12 : Hid (Below w1.heap.size w1 w2) := bel9
  clear own9 bel9
  go_upto_region 6 with (go_at_call 16; refine c16.mono ?_; rintro ex w3 ⟨a16, n16, k16, rfl, own16, bel16⟩; clear c16)
  have B3 : Hid (Below w.heap.size w w3) := B2.out.trans (bel16.mono B2.out.size)
  have k13 : Kept No w1 w3 := Kept.of_below (B12.out.trans (bel16.mono B12.out.size))
  have o9 : w3.ownsRow w1.heap.size 5 1 (.slice a9 n9 k9) (sealX kind xs).length ((sealX kind xs).map bv) := (Kept.of_below (F := No) bel16).owns O9.out (fun _ _ h => h)
  have c12 := same_any _ _ _ _ _ _ _ _ _ _ w3 (own_bs o9 (sealX_lt hk HXL.out)).2 (own_bs own16 (sealX_lt hk HXL.out)).2
  rw [decide_eq_true rfl] at c12
  have o13 : w3.ownsRow w.heap.size 5 1 (.slice (some ⟨g1, 0, none⟩) (n + 70) cap1) (n + 70) ((xs ++ List.replicate 70 165).map bv) := k13.owns O1.out (fun _ _ h => h)
  have c17 : ∀ nd, Calls Try.prog 17 #[.slice (some ⟨g1, 0, none⟩) n cap1, .slice a n c] (w3.drewN nd) fun ex w' => ex = .returned (.bool true) ∧ Kept (fun k => k = g1) (w3.drewN nd) w' := fun nd =>
    left_any' (fun b => b < w.heap.size) w.heap.size g1 n cap1 a c xs (w3.drewN nd) ((HB.out.below B3.out).drewN nd) (fun h => by have := (O1.out.lt g1 rfl).1; omega) o13 (by omega)
  have O93 : Hid (w3.ownsRow w1.heap.size 5 1 (.slice a9 n9 k9) (sealX kind xs).length ((sealX kind xs).map bv)) := o9
  clear own16 bel16 k13 o9 o13
  go_upto_region 8 with (first | (go_at_call 12; refine c12.mono ?_; rintro ex wq ⟨rfl, nd3, rfl⟩) | (go_at_call 17; refine (c17 _).mono ?_; rintro ex w4 ⟨rfl, kp4⟩))
  clear c12 c17
  have hg1 := O1.out.lt g1 rfl
  have k34 : Kept (fun k => k = g1) w3 w4 := ((Kept.refl (fun k => k = g1) w3).drewN nd3).trans kp4 (fun k h => .inl h)
  have B4 : Hid (Below w.heap.size w w4) := B3.out.trans (k34.below (fun k e => by rw [e]; exact hg1.1) B3.out.size)
  have o94 : w4.ownsRow w1.heap.size 5 1 (.slice a9 n9 k9) (sealX kind xs).length ((sealX kind xs).map bv) := k34.owns O93.out (fun k e e2 => by have := (O93.out.lt k e).1; omega)
  have hn9 := (own_bs o94 (sealX_lt hk HXL.out)).1
  have c18 := let_any w1.heap.size a9 n9 k9 (sealX kind xs) w4 (by have := o94; rw [← hn9] at this; exact this) hn9.symm (by have := sealX_le kind xs; omega)
  have O94 : Hid (w4.ownsRow w1.heap.size 5 1 (.slice a9 n9 k9) (sealX kind xs).length ((sealX kind xs).map bv)) := o94
  clear hg1 k34 o94 hn9 kp4
  go_upto_region 9 with (go_at_call 18; refine c18.mono ?_; rintro ex w5 ⟨⟨r5, rfl⟩, kp5⟩; clear c18)
  have B5 : Hid (Below w.heap.size w w5) := B4.out.trans (kp5.below (fun k e => Nat.le_trans B1.out.size (O94.out.lt k e).1) B4.out.size)
  have c13 := marked_any _ a2 n2 k2 ss w5 (HS.out.below B5.out) (by omega)
  clear kp5
  go_upto_region 10 with (go_at_call 13; refine c13.mono ?_; rintro ex w6 ⟨g6, cap6, rfl, own6, bel6⟩; clear c13)
  have O6 : Hid (w6.ownsRow w5.heap.size 5 1 (.slice (some ⟨g6, 0, none⟩) (n2 + 70) cap6) (n2 + 70) ((ss ++ List.replicate 70 165).map bv)) := own6
  have B6 : Hid (Below w.heap.size w w6) := B5.out.trans (bel6.mono B5.out.size)
  have c11 := unseal_any _ kind _ _ _ _ w6 hk (marked_bs own6 HL2.out HSL.out)
  clear own6 bel6
  go_upto_region 11 with (go_at_call 11; refine c11.mono ?_; rintro ex w7 ⟨a11, n11, k11, rfl, own11, bel11⟩; clear c11)
  have O11 : Hid (w7.ownsRow w6.heap.size 5 1 (.slice a11 n11 k11) (unsX kind ss).length ((unsX kind ss).map bv)) := own11
  have B67 : Hid (Below w6.heap.size w6 w7) := bel11
  have B7 : Hid (Below w.heap.size w w7) := B6.out.trans (bel11.mono B6.out.size)
  have c19 := refUnseal_any _ kind _ _ _ _ w7 hk (HS.out.below B7.out)
  clear own11 bel11
  go_upto_region 12 with (go_at_call 19; refine c19.mono ?_; rintro ex w8 ⟨a19, n19, k19, rfl, own19, bel19⟩; clear c19)
  have B8 : Hid (Below w.heap.size w w8) := B7.out.trans (bel19.mono B7.out.size)
  have O19 : Hid (w8.ownsRow w7.heap.size 5 1 (.slice a19 n19 k19) (unsX kind ss).length ((unsX kind ss).map bv)) := own19
  have O118 : Hid (w8.ownsRow w6.heap.size 5 1 (.slice a11 n11 k11) (unsX kind ss).length ((unsX kind ss).map bv)) := (Kept.of_below (F := No) bel19).owns O11.out (fun _ _ h => h)
  have o68 : w8.ownsRow w5.heap.size 5 1 (.slice (some ⟨g6, 0, none⟩) (n2 + 70) cap6) (n2 + 70) ((ss ++ List.replicate 70 165).map bv) := (Kept.of_below (F := No) (B67.out.trans (bel19.mono B67.out.size))).owns O6.out (fun _ _ h => h)
  have hg6 := O6.out.lt g6 rfl
  have hs5 := B5.out.size
  have c12 := same_any _ _ _ _ _ _ _ _ _ _ w8 (own_bs O118.out (unsX_lt HSL.out)).2 (own_bs own19 (unsX_lt HSL.out)).2
  rw [decide_eq_true rfl] at c12
  have c17 : ∀ nd, Calls Try.prog 17 #[.slice (some ⟨g6, 0, none⟩) n2 cap6, .slice a2 n2 k2] (w8.drewN nd) fun ex w' => ex = .returned (.bool true) ∧ Kept (fun k => k = g6) (w8.drewN nd) w' := fun nd =>
    left_any' (fun b => b < w.heap.size) w5.heap.size g6 n2 cap6 a2 k2 ss (w8.drewN nd) ((HS.out.below B8.out).drewN nd) (fun h => by omega) o68 (by omega)
  have K9 : Hid (∀ nd w9, Kept (fun k => k = g6) (w8.drewN nd) w9 → Below w.heap.size w w9 ∧ w9.ownsRow w6.heap.size 5 1 (.slice a11 n11 k11) (unsX kind ss).length ((unsX kind ss).map bv) ∧ w9.ownsRow w7.heap.size 5 1 (.slice a19 n19 k19) (unsX kind ss).length ((unsX kind ss).map bv)) := by
    intro nd w9 hk9
    have k89 : Kept (fun k => k = g6) w8 w9 := ((Kept.refl (fun k => k = g6) w8).drewN nd).trans hk9 (fun k h => .inl h)
    refine ⟨B8.out.trans (k89.below (fun k e => by rw [e]; omega) B8.out.size), k89.owns O118.out (fun k e e2 => by have := (O118.out.lt k e).1; omega), k89.owns O19.out (fun k e e2 => by have := (O19.out.lt k e).1; have := B67.out.size; omega)⟩
  have d12 : ∀ nd w9, Kept (fun k => k = g6) (w8.drewN nd) w9 → Calls Try.prog 12 #[.slice a11 n11 k11, .slice a19 n19 k19] w9 fun ex w' => ex = .returned (.bool true) ∧ ∃ k, w' = w9.drewN k := by
    intro nd w9 hk9
    obtain ⟨_, h1, h2⟩ := K9.out nd w9 hk9
    have := same_any _ _ _ _ _ _ _ _ _ _ w9 (own_bs h1 (unsX_lt HSL.out)).2 (own_bs h2 (unsX_lt HSL.out)).2
    rw [decide_eq_true rfl] at this
    exact this
  clear own19 bel19 o68 hg6 hs5
  go_upto_region 14 with (first | (go_at_call 12; refine c12.mono ?_; rintro ex wq ⟨rfl, nd8, rfl⟩; clear c12) | (go_at_call 17; refine (c17 _).mono ?_; rintro ex w9 ⟨rfl, kp9⟩; clear c17) | (go_at_call 12; refine (d12 _ w9 kp9).mono ?_; rintro ex wq ⟨rfl, nd9, rfl⟩))
  clear d12
  obtain ⟨b9, o119, o199⟩ := K9.out _ w9 kp9
  have hn11 := (own_bs o119 (unsX_lt HSL.out)).1
  have hun := unsX_le kind ss
  have B9 : Hid (Below w.heap.size w (w9.drewN nd9)) := below_drewN b9 nd9
  have O199 : Hid ((w9.drewN nd9).ownsRow w7.heap.size 5 1 (.slice a19 n19 k19) (unsX kind ss).length ((unsX kind ss).map bv)) := o199
  have O119 : Hid ((w9.drewN nd9).ownsRow w6.heap.size 5 1 (.slice a11 n11 k11) (unsX kind ss).length ((unsX kind ss).map bv)) := o119
  have c18 := let_any w6.heap.size a11 n11 k11 (unsX kind ss) (w9.drewN nd9) (by have := O119.out; rw [← hn11] at this; exact this) hn11.symm (by omega)
  clear b9 o119 o199 hn11 hun kp9
  go_upto_region 15 with (go_at_call 18; refine c18.mono ?_; rintro ex w10 ⟨⟨r10, rfl⟩, kp10⟩; clear c18)
  have B10 : Hid (Below w.heap.size w w10) := B9.out.trans (kp10.below (fun k e => Nat.le_trans B6.out.size (O119.out.lt k e).1) B9.out.size)
  have O1910 : Hid (w10.ownsRow w7.heap.size 5 1 (.slice a19 n19 k19) (unsX kind ss).length ((unsX kind ss).map bv)) := kp10.owns O199.out (fun k e e2 => by have := (O199.out.lt k e).1; have := (O11.out.lt k e2).2; omega)
  have c11 := unseal_any _ kind _ _ _ _ w10 hk (HS.out.below B10.out)
  clear kp10
  go_upto_region 16 with (go_at_call 11; refine c11.mono ?_; rintro ex w11 ⟨a20, n20, k20, rfl, own20, bel20⟩; clear c11)
  have B11 : Hid (Below w.heap.size w w11) := B10.out.trans (bel20.mono B10.out.size)
  have o1911 : w11.ownsRow w7.heap.size 5 1 (.slice a19 n19 k19) (unsX kind ss).length ((unsX kind ss).map bv) := (Kept.of_below (F := No) bel20).owns O1910.out (fun _ _ h => h)
  have c12 := same_any _ _ _ _ _ _ _ _ _ _ w11 (own_bs own20 (unsX_lt HSL.out)).2 (own_bs o1911 (unsX_lt HSL.out)).2
  rw [decide_eq_true rfl] at c12
  have c20 : ∀ nd, Calls Try.prog 20 #[.int .u8 kind, .slice a n c, .slice a2 n2 k2] (w11.drewN nd) fun ex w' => ex = .returned (.bool true) ∧ Below w.heap.size w w' := fun nd =>
    (placed_any _ _ kind a a2 n c n2 k2 xs ss (w11.drewN nd) hk ((HB.out.below B11.out).drewN nd) ((HS.out.below B11.out).drewN nd) hn hn2).mono (fun e w' ⟨he, b⟩ => ⟨he, (below_drewN B11.out nd).trans (b.mono B11.out.size)⟩)
  have c21 : ∀ W, Below w.heap.size w W → Calls Try.prog 21 #[.int .u8 kind, .slice a n c, .slice a2 n2 k2] W fun ex w' => ex = .returned (.bool true) ∧ Below w.heap.size w w' := fun W hW =>
    (twice_any _ _ kind a a2 n c n2 k2 xs ss W hk (HB.out.below hW) (HS.out.below hW) hn hn2).mono (fun e w' ⟨he, b⟩ => ⟨he, hW.trans (b.mono hW.size)⟩)
  clear own20 bel20 o1911
  go_wp2_with (first | (go_at_call 12; refine c12.mono ?_; rintro ex wq ⟨rfl, nd11, rfl⟩; clear c12) | (go_at_call 20; refine (c20 _).mono ?_; rintro ex w12 ⟨rfl, bel12⟩; clear c20) | (go_at_call 21; refine (c21 w12 bel12).mono ?_; rintro ex w13 ⟨rfl, bel13⟩; clear c21))
  go_ret
  exact ⟨rfl, bel13⟩

end Go.Proofs.Ytakdfpenpodplaa
