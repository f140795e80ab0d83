/-
  'placed': bytes written over where they lie.
-/
import Derived.Test.YtakdfpenpodplaaMarks2
import Derived.Test.YtakdfpenpodplaaRefUnseal
namespace Go.Proofs.Ytakdfpenpodplaa
open Go.RowKit
set_option linter.unusedVariables false

/-- one slice that is written over, others that stay -/
structure Ob (w0 w : World) (gv : Value) (X : List Nat) (fs : List (Value × List Nat)) : Prop where
  bel : Below w0.heap.size w0 w
  g : w.ownsRow w0.heap.size 5 1 gv X.length (X.map bv)
  f : ∀ p ∈ fs, w.ownsRow w0.heap.size 5 1 p.1 p.2.length (p.2.map bv) ∧ ∀ k, p.1.ownBlock = some k → gv.ownBlock ≠ some k
namespace Ob
variable {w0 w w' : World} {gv v : Value} {X Y ys : List Nat} {fs : List (Value × List Nat)}
theorem fresh (h : Ob w0 w gv X fs) (b : Below w.heap.size w w') : Ob w0 w' gv X fs :=
  ⟨h.bel.trans (b.mono h.bel.size), (Kept.of_below (F := No) b).owns h.g (fun _ _ h => h), fun p hp => ⟨(Kept.of_below (F := No) b).owns (h.f p hp).1 (fun _ _ h => h), (h.f p hp).2⟩⟩
theorem add (h : Ob w0 w gv X fs) (b : Below w.heap.size w w') (own : w'.ownsRow w.heap.size 5 1 v ys.length (ys.map bv)) : Ob w0 w' gv X ((v, ys) :: fs) := by
  have h1 := h.fresh b
  refine ⟨h1.bel, h1.g, fun p hp => ?_⟩
  rcases List.mem_cons.1 hp with rfl | h2
  · refine ⟨owns_base own h.bel.size, fun k hk e => ?_⟩
    have h3 := (own.lt k hk).1
    have h4 := (h.g.lt k e).2
    omega
  · exact h1.f p h2
theorem laid (h : Ob w0 w gv X fs) (k : Kept (fun j => gv.ownBlock = some j) w w') (own : w'.ownsRow w0.heap.size 5 1 gv Y.length (Y.map bv)) : Ob w0 w' gv Y fs :=
  ⟨h.bel.trans (k.below (fun j hj => (h.g.lt j hj).1) h.bel.size), own, fun p hp => ⟨k.owns (h.f p hp).1 (fun j hj e => (h.f p hp).2 j hj e), (h.f p hp).2⟩⟩
theorem drewN (h : Ob w0 w gv X fs) (n : Nat) : Ob w0 (w.drewN n) gv X fs := ⟨below_drewN h.bel n, h.g, h.f⟩
theorem sub {fs' : List (Value × List Nat)} (h : Ob w0 w gv X fs) (hs : ∀ p ∈ fs', p ∈ fs) : Ob w0 w gv X fs' := ⟨h.bel, h.g, fun p hp => h.f p (hs p hp)⟩
theorem kept {G : Nat → Prop} (h : Ob w0 w gv X fs) (k : Kept G w w') (hg : ∀ j, gv.ownBlock = some j → ¬ G j) (hf : ∀ p ∈ fs, ∀ j, p.1.ownBlock = some j → ¬ G j) (hG : ∀ j, G j → w0.heap.size ≤ j) : Ob w0 w' gv X fs :=
  ⟨h.bel.trans (k.below hG h.bel.size), k.owns h.g hg, fun p hp => ⟨k.owns (h.f p hp).1 (hf p hp), (h.f p hp).2⟩⟩
theorem bs {a : Option Addr} {n c : Nat} (h : Ob w0 w gv X fs) (hm : (.slice a n c, ys) ∈ fs) (hlt : ∀ x ∈ ys, x < 256) : n = ys.length ∧ Bs w (fun j => (Value.slice a n c).ownBlock = some j) a n c ys := by
  obtain ⟨sa, sc, hv, hB⟩ := Bs.of_owns (h.f _ hm).1 hlt
  injection hv with e1 e2 e3
  subst e1 e3
  have e2' : n = ys.length := e2
  have hB' : Bs w (fun j => (Value.slice a n c).ownBlock = some j) a ys.length c ys := hB
  refine ⟨e2', ?_⟩
  have e4 : ys.length = n := e2'.symm
  rw [e4] at hB'
  exact hB'
end Ob
theorem tk_all (ys : List Nat) (n : Nat) (h : ys.length = n) : tkXs ys 0 n = ys := by
  subst h
  have hk : tkOk ys 0 ys.length = true := by unfold tkOk; simp
  unfold tkXs; rw [hk]; simp
theorem sealX_lt {kind : Nat} {xs : List Nat} (hk : kind < 256) (hx : ∀ x ∈ xs, x < 256) : ∀ x ∈ sealX kind xs, x < 256 := by
  unfold sealX; split
  · intro x h; cases h
  · exact sealed_lt hk hx
theorem unsX_lt {kind : Nat} {xs : List Nat} (hx : ∀ x ∈ xs, x < 256) : ∀ x ∈ unsX kind xs, x < 256 := by
  unfold unsX; split
  · intro x h; unfold inner at h; exact hx x (List.mem_of_mem_drop (List.mem_of_mem_take h))
  · intro x h; cases h

/-- an owned slice of known length, its value written out -/
theorem own_slice {w : World} {B : Nat} {v : Value} {n : Nat} {xs : List Nat} (h : w.ownsRow B 5 1 v n (xs.map bv)) (hl : xs.length = n) (hx : ∀ x ∈ xs, x < 256) : ∃ a c, v = .slice a n c ∧ Bs w (fun g => v.ownBlock = some g) a n c xs := by
  subst hl; exact Bs.of_owns h hx

set_option maxRecDepth 100000 in
set_option maxHeartbeats 4000000 in
theorem placed_any (G G2 : Nat → Prop) (kind : Nat) (a a2 : Option Addr) (n c n2 k2 : Nat) (xs ss : List Nat) (w : World) (hk : kind < 256) (hb : Bs w G a n c xs) (hs : Bs w G2 a2 n2 k2 ss) (hn : n ≤ 140737488351232) (hn2 : n2 ≤ 140737488351232) :
    Calls Try.prog 20 #[.int .u8 kind, .slice a n c, .slice a2 n2 k2] w fun ex w' => ex = .returned (.bool true) ∧ Below w.heap.size w w' := by
  have q2 : ∀ (w : World) (a : Addr), (binOp .eql 37 (.pointer (some a)) (.pointer none)).run Try.prog w = .ok (.bool false) w := fun w a => by first | rfl | simp
  have HL : Hid (xs.length = n) := hb.len
  have HL2 : Hid (ss.length = n2) := hs.len
  have HXL : Hid (∀ x ∈ xs, x < 256) := hb.lt
  have HSL : Hid (∀ x ∈ ss, x < 256) := hs.lt
  have HB : Hid (Bs w (fun b => b < w.heap.size) a n c xs) := ⟨hb.len, hb.cap, hb.max, hb.nil, fun i hi => by obtain ⟨b, o, e, _, hc⟩ := hb.at' i hi; exact ⟨b, o, e, cell_lt hc, hc⟩, hb.lt⟩
  have HS : Hid (Bs w (fun b => b < w.heap.size) a2 n2 k2 ss) := ⟨hs.len, hs.cap, hs.max, hs.nil, fun i hi => by obtain ⟨b, o, e, _, hc⟩ := hs.at' i hi; exact ⟨b, o, e, cell_lt hc, hc⟩, hs.lt⟩
  have HT : Hid ((trn xs).length = n) := by have h0 : (trn xs).length = n := by rw [trn_len]; exact hb.len
                                            exact h0
  have c1 := turned_any G a n c xs w hb (by omega)
  clear hb hs
  go_enter Try.func20, Try.ntmps20
  go_upto_region 2 with (go_at_call 54; refine c1.mono ?_; rintro ex w1 ⟨v1, rfl, own1, bel1⟩)
  obtain ⟨ta, tc, rfl, hBt⟩ := own_slice own1 HT.out (trn_lt xs)
  have c2 := turned_any _ a n c xs w1 (HB.out.below bel1) (by omega)
  have OWN1 : Hid (w1.ownsRow w.heap.size 5 1 (.slice ta n tc) n ((trn xs).map bv)) := own1
  have BEL1 : Hid (Below w.heap.size w w1) := bel1
  clear c1 own1 bel1 hBt
  go_upto_region 3 with (go_at_call 54; refine c2.mono ?_; rintro ex w2 ⟨v2, rfl, own2, bel2⟩)
  obtain ⟨ga, gc, rfl, hBg⟩ := own_slice own2 HT.out (trn_lt xs)
  have OB2 : Hid (Ob w w2 (.slice ga n gc) (trn xs) [(.slice ta n tc, trn xs)]) := by
    refine ⟨BEL1.out.trans (bel2.mono BEL1.out.size), by rw [HT.out]; exact owns_base own2 BEL1.out.size, fun p hp => ?_⟩
    simp at hp; subst hp
    refine ⟨by show w2.ownsRow _ _ _ _ (trn xs).length _; rw [HT.out]; exact (Kept.of_below (F := No) bel2).owns OWN1.out (fun _ _ h => h), fun k hk e => ?_⟩
    have h1 := (OWN1.out.lt k hk).2
    have h2 := (own2.lt k e).1
    omega
  have c14 := sum_any _ ga n gc (trn xs) w2 hBg
  clear c2 own2 bel2 hBg BEL1 OWN1
  go_upto_region 4 with (go_at_call 14; refine c14.mono ?_; rintro ex w3 ⟨rfl, hw⟩; obtain rfl := hw.symm)
  have LAY : Hid (∀ (W : World) (X Y : List Nat) (fs : List (Value × List Nat)) (sa : Option Addr) (sc : Nat) (G3 : Nat → Prop), Ob w W (.slice ga n gc) X fs → X.length = n → Bs W G3 sa n sc Y → (∀ g, (Value.slice ga n gc).ownBlock = some g → ¬ G3 g) →
      Calls Try.prog 55 #[.slice ga n gc, .slice sa n sc] W fun ex w' => ex = .returned (.tuple #[]) ∧ Ob w w' (.slice ga n gc) Y fs ∧ Kept (fun j => (Value.slice ga n gc).ownBlock = some j) W w') := by
    intro W X Y fs sa sc G3 hob hX hY hG
    have hg := hob.g
    rw [hX] at hg
    refine (layB_any G3 w.heap.size ga sa n gc sc X Y W hg hX hY hG (by omega)).mono ?_
    rintro ex w' ⟨h1, h2, h3⟩
    exact ⟨h1, hob.laid h3 (by rw [hY.len]; exact h2), h3⟩
  have LAYB : Hid (∀ (W : World) (X : List Nat) (fs : List (Value × List Nat)), Ob w W (.slice ga n gc) X fs → X.length = n →
      Calls Try.prog 55 #[.slice ga n gc, .slice a n c] W fun ex w' => ex = .returned (.tuple #[]) ∧ Ob w w' (.slice ga n gc) xs fs ∧ Kept (fun j => (Value.slice ga n gc).ownBlock = some j) W w') := by
    intro W X fs hob hX
    exact LAY.out W X xs fs a c _ hob hX (HB.out.below hob.bel) (fun g hg h1 => by have := (hob.g.lt g hg).1; omega)
  have LAYT : Hid (∀ (W : World) (X : List Nat) (fs : List (Value × List Nat)), Ob w W (.slice ga n gc) X fs → X.length = n → (.slice ta n tc, trn xs) ∈ fs →
      Calls Try.prog 55 #[.slice ga n gc, .slice ta n tc] W fun ex w' => ex = .returned (.tuple #[]) ∧ Ob w w' (.slice ga n gc) (trn xs) fs ∧ Kept (fun j => (Value.slice ga n gc).ownBlock = some j) W w') := by
    intro W X fs hob hX hmem
    obtain ⟨h1, h2⟩ := hob.f _ hmem
    obtain ⟨sa, sc, hv, hBs⟩ := own_slice (n := n) (by have := h1; rw [HT.out] at this; exact this) HT.out (trn_lt xs)
    injection hv with e1 _ e3
    subst e1 e3
    exact LAY.out W X (trn xs) fs ta tc _ hob hX hBs (fun g hg h3 => h2 g h3 hg)
  have GBS : Hid (∀ (W : World) (X : List Nat) (fs : List (Value × List Nat)), Ob w W (.slice ga n gc) X fs → X.length = n → (∀ x ∈ X, x < 256) → Bs W (fun j => (Value.slice ga n gc).ownBlock = some j) ga n gc X) := by
    intro W X fs hob hX hlt
    obtain ⟨sa, sc, hv, hBs⟩ := own_slice (n := n) (by have := hob.g; rw [hX] at this; exact this) hX hlt
    injection hv with e1 _ e3
    subst e1 e3
    exact hBs
  have c55 := LAYB.out w2 _ _ OB2.out HT.out
  clear c14
  go_upto_region 5 with (go_at_call 55; refine c55.mono ?_; rintro ex w3 ⟨rfl, ob3, kp3⟩)
  have OB3 : Hid (Ob w w3 (.slice ga n gc) xs [(.slice ta n tc, trn xs)]) := ob3
  have c14 := sum_any _ ga n gc xs w3 (GBS.out w3 xs _ ob3 HL.out HXL.out)
  clear c55 ob3 kp3 OB2
  go_upto_region 6 with (go_at_call 14; refine c14.mono ?_; rintro ex w4 ⟨rfl, hw⟩; obtain rfl := hw.symm)
  have c55 := LAYT.out w3 _ _ OB3.out HL.out (by simp)
  clear c14
  go_upto_region 7 with (go_at_call 55; refine c55.mono ?_; rintro ex w4 ⟨rfl, ob4, kp4⟩)
  have c9 := seal_any _ kind ga n gc (trn xs) w4 hk (GBS.out w4 _ _ ob4 HT.out (trn_lt xs))
  have OB4 : Hid (Ob w w4 (.slice ga n gc) (trn xs) [(.slice ta n tc, trn xs)]) := ob4
  clear c55 ob4 kp4 OB3
  go_upto_region 8 with (go_at_call 9; refine c9.mono ?_; rintro ex w5 ⟨a5, n5, k5, rfl, own5, bel5⟩)
  have OB5 : Hid (Ob w w5 (.slice ga n gc) (trn xs) [(.slice a5 n5 k5, sealX kind (trn xs)), (.slice ta n tc, trn xs)]) := OB4.out.add bel5 own5
  have c55 := LAYB.out w5 _ _ OB5.out HT.out
  clear c9 own5 bel5 OB4
  go_upto_region 9 with (go_at_call 55; refine c55.mono ?_; rintro ex w6 ⟨rfl, ob6, kp6⟩)
  have c9 := seal_any _ kind ga n gc xs w6 hk (GBS.out w6 _ _ ob6 HL.out HXL.out)
  have OB6 : Hid (Ob w w6 (.slice ga n gc) xs [(.slice a5 n5 k5, sealX kind (trn xs)), (.slice ta n tc, trn xs)]) := ob6
  clear c55 ob6 kp6 OB5
  go_upto_region 10 with (go_at_call 9; refine c9.mono ?_; rintro ex w7 ⟨a7, n7, k7, rfl, own7, bel7⟩)
  have OB7 : Hid (Ob w w7 (.slice ga n gc) xs [(.slice a7 n7 k7, sealX kind xs), (.slice a5 n5 k5, sealX kind (trn xs)), (.slice ta n tc, trn xs)]) := OB6.out.add bel7 own7
  have c55 := LAYT.out w7 _ _ OB7.out HL.out (by simp)
  clear c9 own7 bel7 OB6
  go_upto_region 11 with (go_at_call 55; refine c55.mono ?_; rintro ex w8 ⟨rfl, ob8, kp8⟩)
  have c22 := newReader_any _ ga n gc (trn xs) w8 (GBS.out w8 _ _ ob8 HT.out (trn_lt xs)) (by omega)
  have OB8 : Hid (Ob w w8 (.slice ga n gc) (trn xs) [(.slice a7 n7 k7, sealX kind xs), (.slice a5 n5 k5, sealX kind (trn xs)), (.slice ta n tc, trn xs)]) := ob8
  clear c55 ob8 kp8 OB7
  go_upto_region 12 with (go_at_call 22; refine c22.mono ?_; rintro ex w9 ⟨r, rfl, hr9, bel9⟩)
  have OB9 : Hid (Ob w w9 (.slice ga n gc) (trn xs) [(.slice a7 n7 k7, sealX kind xs), (.slice a5 n5 k5, sealX kind (trn xs)), (.slice ta n tc, trn xs)]) := OB8.out.fresh bel9
  obtain ⟨Fr, hFr⟩ : ∃ Fr : Nat → Prop, Fr = (fun k => w8.heap.size ≤ k ∧ k < w9.heap.size) := ⟨_, rfl⟩
  rw [← hFr] at hr9
  have HFR : Hid (∀ k, Fr k → w8.heap.size ≤ k) := fun k hk => by rw [hFr] at hk; exact hk.1
  have HGL : Hid (∀ k, (Value.slice ga n gc).ownBlock = some k → k < w8.heap.size) := fun k hk => (OB8.out.g.lt k hk).2
  have HR9 : Hid (Rd w9 Fr r (trn xs) 0) := hr9
  have HTL : Hid (∀ k, (Value.slice ta n tc).ownBlock = some k → k < w8.heap.size) := fun k hk => ((OB8.out.f (.slice ta n tc, trn xs) (by simp)).1.lt k hk).2
  have hrr : w8.heap.size ≤ r := HFR.out r (by obtain ⟨ra, rn, rc, hrv⟩ := hr9; exact hrv.fp)
  have hw89 := bel9.size
  have hww8 : w.heap.size ≤ w8.heap.size := OB8.out.bel.size
  have c55 := LAYB.out w9 _ _ OB9.out HT.out
  clear c22 hr9 bel9 hFr OB8
  go_upto_region 13 with (go_at_call 55; refine c55.mono ?_; rintro ex w10 ⟨rfl, ob10, kp10⟩)
  have HR10 : Hid (Rd w10 Fr r (trn xs) 0) := HR9.out.kept kp10 (fun k hk e => by have h1 := HFR.out k hk; have h2 := HGL.out k e; omega)
  have c22 := newReader_any _ ga n gc xs w10 (GBS.out w10 _ _ ob10 HL.out HXL.out) (by omega)
  have OB10 : Hid (Ob w w10 (.slice ga n gc) xs [(.slice a7 n7 k7, sealX kind xs), (.slice a5 n5 k5, sealX kind (trn xs)), (.slice ta n tc, trn xs)]) := ob10
  have hw910 := kp10.size
  clear c55 ob10 kp10 OB9 HR9
  go_upto_region 14 with (go_at_call 22; refine c22.mono ?_; rintro ex w11 ⟨qx, rfl, hq11, bel11⟩)
  have OB11 : Hid (Ob w w11 (.slice ga n gc) xs [(.slice a7 n7 k7, sealX kind xs), (.slice a5 n5 k5, sealX kind (trn xs)), (.slice ta n tc, trn xs)]) := OB10.out.fresh bel11
  have HR11 : Hid (Rd w11 Fr r (trn xs) 0) := HR10.out.kept (Kept.of_below (F := No) bel11) (fun _ _ h => h)
  obtain ⟨Fq, hFq⟩ : ∃ Fq : Nat → Prop, Fq = (fun k => w10.heap.size ≤ k ∧ k < w11.heap.size) := ⟨_, rfl⟩
  rw [← hFq] at hq11
  have HFQ : Hid (∀ k, Fq k → w10.heap.size ≤ k) := fun k hk => by rw [hFq] at hk; exact hk.1
  have HQ11 : Hid (Rd w11 Fq qx xs 0) := hq11
  have hqq : w10.heap.size ≤ qx := HFQ.out qx (by obtain ⟨ra, rn, rc, hrv⟩ := hq11; exact hrv.fp)
  have HRP : Hid (Fr r) := by obtain ⟨ra, rn, rc, hrv⟩ := HR10.out; exact hrv.fp
  have HRQ : Hid (∀ k, Fr k → k < w10.heap.size) := by obtain ⟨ra, rn, rc, hrv⟩ := HR10.out; exact hrv.flt
  have c16 : Calls Try.prog 16 #[.int .u8 kind, .slice ta n tc] w11 fun ex w' => ∃ a' n' c', ex = .returned (.tuple #[.slice a' n' c', .int .i64 (sealE (trn xs))]) ∧ w'.ownsRow w11.heap.size 5 1 (.slice a' n' c') (sealX kind (trn xs)).length ((sealX kind (trn xs)).map bv) ∧ Below w11.heap.size w11 w' := by
    obtain ⟨h1, _⟩ := OB11.out.f (.slice ta n tc, trn xs) (by simp)
    obtain ⟨sa, sc, hv, hBs⟩ := own_slice (n := n) (by have := h1; rw [HT.out] at this; exact this) HT.out (trn_lt xs)
    injection hv with e1 _ e3
    subst e1 e3
    exact refSeal_any _ kind ta n tc (trn xs) w11 hk hBs
  clear c22 hq11 hFq OB10 HR10
  go_upto_region 15 with (go_at_call 16; refine c16.mono ?_; rintro ex w12 ⟨a12, n12, k12, rfl, own12, bel12⟩; clear c16)
  have OB12 : Hid (Ob w w12 (.slice ga n gc) xs [(.slice a12 n12 k12, sealX kind (trn xs)), (.slice a7 n7 k7, sealX kind xs), (.slice a5 n5 k5, sealX kind (trn xs)), (.slice ta n tc, trn xs)]) := OB11.out.add bel12 own12
  have HR12 : Hid (Rd w12 Fr r (trn xs) 0 ∧ Rd w12 Fq qx xs 0) := ⟨HR11.out.kept (Kept.of_below (F := No) bel12) (fun _ _ h => h), HQ11.out.kept (Kept.of_below (F := No) bel12) (fun _ _ h => h)⟩
  have c16 := refSeal_any _ kind a n c xs w12 hk (HB.out.below OB12.out.bel)
  clear own12 bel12 OB11 HR11 HQ11
  go_upto_region 16 with (go_at_call 16; refine c16.mono ?_; rintro ex w13 ⟨a13, n13, k13, rfl, own13, bel13⟩; clear c16)
  have OB13 : Hid (Ob w w13 (.slice ga n gc) xs [(.slice a13 n13 k13, sealX kind xs), (.slice a12 n12 k12, sealX kind (trn xs)), (.slice a7 n7 k7, sealX kind xs), (.slice a5 n5 k5, sealX kind (trn xs)), (.slice ta n tc, trn xs)]) := OB12.out.add bel13 own13
  have HR13 : Hid (Rd w13 Fr r (trn xs) 0 ∧ Rd w13 Fq qx xs 0) := ⟨HR12.out.1.kept (Kept.of_below (F := No) bel13) (fun _ _ h => h), HR12.out.2.kept (Kept.of_below (F := No) bel13) (fun _ _ h => h)⟩
  clear own13 bel13 OB12 HR12
  have c15t := refSum_any _ ta n tc (trn xs) w13 (OB13.out.bs (by simp) (trn_lt xs)).2
  have c15b := refSum_any _ a n c xs w13 (HB.out.below OB13.out.bel)
  have c12a := same_any _ _ _ _ _ _ _ _ _ _ w13 (OB13.out.bs (a := a5) (n := n5) (c := k5) (ys := sealX kind (trn xs)) (by simp) (sealX_lt hk (trn_lt xs))).2 (OB13.out.bs (a := a12) (n := n12) (c := k12) (ys := sealX kind (trn xs)) (by simp) (sealX_lt hk (trn_lt xs))).2
  have c12c := fun nd => same_any _ _ _ _ _ _ _ _ _ _ (w13.drewN nd) ((OB13.out.drewN nd).bs (a := a7) (n := n7) (c := k7) (ys := sealX kind xs) (by simp) (sealX_lt hk HXL.out)).2 ((OB13.out.drewN nd).bs (a := a13) (n := n13) (c := k13) (ys := sealX kind xs) (by simp) (sealX_lt hk HXL.out)).2
  rw [decide_eq_true rfl] at c12a
  have c12c' : ∀ nd, Calls Try.prog 12 #[.slice a7 n7 k7, .slice a13 n13 k13] (w13.drewN nd) fun ex w' => ex = .returned (.bool true) ∧ ∃ k, w' = (w13.drewN nd).drewN k := fun nd => by
    have := c12c nd; rw [decide_eq_true rfl] at this; exact this
  clear c12c
  go_upto_region 18 with (first | (go_at_call_of 15 ta; go_loud (refine c15t.mono ?_; rintro ex w14 ⟨rfl, hw⟩; obtain rfl := hw.symm)) | (go_at_call_of 15 a; go_loud (refine c15b.mono ?_; rintro ex w14 ⟨rfl, hw⟩; obtain rfl := hw.symm)) | (go_at_call_of 12 a5; go_loud (refine c12a.mono ?_; rintro ex w14 ⟨rfl, nd14, rfl⟩)) | (go_at_call_of 12 a7; go_loud (refine (c12c' _).mono ?_; rintro ex w15 ⟨rfl, nd15, rfl⟩)))
  obtain ⟨W, hW⟩ : ∃ W, W = w13.drewN (nd14 + nd15) := ⟨_, rfl⟩
  have OB14 : Hid (Ob w W (.slice ga n gc) xs [(.slice ta n tc, trn xs)]) := by rw [hW]; exact (OB13.out.drewN _).sub (fun p hp => by simp at hp; subst hp; simp)
  have HR14 : Hid (Rd W Fr r (trn xs) 0 ∧ Rd W Fq qx xs 0) := by rw [hW]; exact ⟨HR13.out.1.drewN _, HR13.out.2.drewN _⟩
  rw [← hW]
  have c29r := rbytes_any Fr r (trn xs) 0 n W HR14.out.1 (by rw [HT.out]; omega)
  rw [tk_all (trn xs) n HT.out, HT.out] at c29r
  clear c15t c15b c12a c12c' OB13 HR13 hW
  have c12r : ∀ w14 va vc, w14.ownsRow W.heap.size 5 1 (.slice va n vc) n ((trn xs).map bv) → Ob w w14 (.slice ga n gc) xs [(.slice ta n tc, trn xs)] → Calls Try.prog 12 #[.slice va n vc, .slice ta n tc] w14 fun ex w' => ex = .returned (.bool true) ∧ ∃ k, w' = w14.drewN k := by
    intro w14 va vc h1 h2
    obtain ⟨sa, sc, hv, hB⟩ := own_slice h1 HT.out (trn_lt xs)
    injection hv with e1 _ e3
    subst e1 e3
    have := same_any _ _ _ _ _ _ _ _ _ _ w14 hB (h2.bs (a := ta) (n := n) (c := tc) (ys := trn xs) (by simp) (trn_lt xs)).2
    rw [decide_eq_true rfl] at this
    exact this
  have c12q : ∀ w14 va vc, w14.ownsRow W.heap.size 5 1 (.slice va n vc) n (xs.map bv) → Below w.heap.size w w14 → Calls Try.prog 12 #[.slice va n vc, .slice a n c] w14 fun ex w' => ex = .returned (.bool true) ∧ ∃ k, w' = w14.drewN k := by
    intro w14 va vc h1 h2
    obtain ⟨sa, sc, hv, hB⟩ := own_slice h1 HL.out HXL.out
    injection hv with e1 _ e3
    subst e1 e3
    have := same_any _ _ _ _ _ _ _ _ _ _ w14 hB (HB.out.below h2)
    rw [decide_eq_true rfl] at this
    exact this
  have KR : Hid (∀ w14, Kept (fun k => k = r) W w14 → Ob w w14 (.slice ga n gc) xs [(.slice ta n tc, trn xs)] ∧ ∀ nd, Rd (w14.drewN nd) Fq qx xs 0) := by
    intro w14 hk14
    refine ⟨OB14.out.kept hk14 (fun j hj e => by have := HGL.out j hj; omega) (fun p hp j hj e => by simp at hp; subst hp; have := HTL.out j hj; omega) (fun j hj => by omega), fun nd => (HR14.out.2.kept hk14 (fun b hb e => by have h1 := HFQ.out b hb; have h2 := HRQ.out r HRP.out; omega)).drewN nd⟩
  have c29q : ∀ w14 nd, Kept (fun k => k = r) W w14 → Calls Try.prog 29 #[.pointer (some ⟨qx, 0, none⟩), .int .i64 n] (w14.drewN nd) fun ex w' => ∃ v, ex = .returned v ∧ w'.ownsRow W.heap.size 5 1 v n (xs.map bv) ∧ Kept (fun k => k = qx) w14 w' := by
    intro w14 nd hk14
    have := rbytes_any Fq qx xs 0 n (w14.drewN nd) ((KR.out w14 hk14).2 nd) (by rw [HL.out]; omega)
    rw [tk_all xs n HL.out, HL.out] at this
    refine this.mono ?_
    rintro ex w' ⟨v, h1, h2, h3⟩
    exact ⟨v, h1, owns_base h2 hk14.size, ⟨h3.2.os, h3.2.tape, h3.2.output, h3.2.size, h3.2.block⟩⟩
  have SH : Hid (∀ (x : World) (v : Value) (ys : List Nat), x.ownsRow W.heap.size 5 1 v n (ys.map bv) → ∃ va vc, v = .slice va n vc) := by
    intro x v ys h1
    rcases owns_cells h1 with ⟨rfl, h0⟩ | ⟨g, cap, rfl, _⟩
    · exact ⟨none, 0, by rw [h0]⟩
    · exact ⟨_, cap, rfl⟩
  go_upto_region 20 with (first | (go_at_call_of 29 r; refine c29r.mono ?_; rintro ex w14 ⟨v14, rfl, own14, hd14⟩; obtain ⟨va14, vc14, rfl⟩ := SH.out w14 v14 (trn xs) own14) | (go_at_call_of 12 ta; refine (c12r w14 va14 vc14 own14 (KR.out w14 hd14.2).1).mono ?_; rintro ex w15 ⟨rfl, nd15, rfl⟩) | (go_at_call_of 29 qx; refine (c29q w14 nd15 hd14.2).mono ?_; rintro ex w16 ⟨v16, rfl, own16, kp16⟩; obtain ⟨va16, vc16, rfl⟩ := SH.out w16 v16 xs own16; have bel16 : Below w.heap.size w w16 := ((KR.out w14 hd14.2).1.bel.trans (kp16.below (fun j hj => by omega) (KR.out w14 hd14.2).1.bel.size))) | (go_at_call_of 12 a; refine (c12q w16 va16 vc16 own16 bel16).mono ?_; rintro ex w17 ⟨rfl, nd17, rfl⟩))
  have ob16 : Ob w (w16.drewN nd17) (.slice ga n gc) xs [] := by
    have h1 := ((KR.out w14 hd14.2).1.kept kp16 (fun j hj e => by have := HGL.out j hj; omega) (fun p hp j hj e => by simp at hp; subst hp; have := HTL.out j hj; omega) (fun j hj => by omega)).drewN nd17
    exact h1.sub (fun p hp => by cases hp)
  obtain ⟨Z, hZ⟩ : ∃ Z, Z = w16.drewN nd17 := ⟨_, rfl⟩
  rw [← hZ] at ob16 ⊢
  have OBZ : Hid (Ob w Z (.slice ga n gc) xs []) := ob16
  have HT2 : Hid ((trn ss).length = n2) := by
    have h0 : (trn ss).length = n2 := by rw [trn_len]; exact HL2.out
    exact h0
  have c54 := turned_any _ a2 n2 k2 ss Z (HS.out.below OBZ.out.bel) (by omega)
  clear c29r c12r c12q c29q own14 hd14 own16 kp16 bel16 ob16 hZ KR OB14 HR14
  go_upto_region 21 with (go_at_call 54; refine c54.mono ?_; rintro ex w17 ⟨v17, rfl, own17, bel17⟩)
  obtain ⟨za, zc, rfl, hBz⟩ := own_slice own17 HT2.out (trn_lt ss)
  have OB17 : Hid (Ob w w17 (.slice ga n gc) xs [(.slice za n2 zc, trn ss)]) := OBZ.out.add bel17 (by rw [HT2.out]; exact own17)
  have c54 := turned_any _ a2 n2 k2 ss w17 (HS.out.below OB17.out.bel) (by omega)
  clear own17 bel17 hBz
  go_upto_region 22 with (go_at_call 54; refine c54.mono ?_; rintro ex w18 ⟨v18, rfl, own18, bel18⟩)
  obtain ⟨ha, hc, rfl, hBh⟩ := own_slice own18 HT2.out (trn_lt ss)
  have OB18 : Hid (Ob w w18 (.slice ha n2 hc) (trn ss) [(.slice za n2 zc, trn ss), (.slice ga n gc, xs)]) := by
    have h1 := OB17.out.fresh bel18
    have hlt : ∀ k, (Value.slice ha n2 hc).ownBlock = some k → w17.heap.size ≤ k := fun k hk => (own18.lt k hk).1
    refine ⟨h1.bel, by rw [HT2.out]; exact owns_base own18 OB17.out.bel.size, fun p hp => ?_⟩
    simp at hp
    rcases hp with rfl | rfl
    · refine ⟨(h1.f _ (by simp)).1, fun k hk e => ?_⟩
      have h2 := ((OB17.out.f (.slice za n2 zc, trn ss) (by simp)).1.lt k hk).2
      have h3 := hlt k e
      omega
    · refine ⟨h1.g, fun k hk e => ?_⟩
      have h2 := (OB17.out.g.lt k hk).2
      have h3 := hlt k e
      omega
  have c11 := unseal_any _ kind ha n2 hc (trn ss) w18 hk hBh
  clear own18 bel18 hBh OB17 OBZ c54
  go_upto_region 23 with (go_at_call 11; refine c11.mono ?_; rintro ex w19 ⟨a19, n19, k19, rfl, own19, bel19⟩; clear c11)
  have OB19 : Hid (Ob w w19 (.slice ha n2 hc) (trn ss) [(.slice a19 n19 k19, unsX kind (trn ss)), (.slice za n2 zc, trn ss), (.slice ga n gc, xs)]) := OB18.out.add bel19 own19
  have c55 : Calls Try.prog 55 #[.slice ha n2 hc, .slice a2 n2 k2] w19 fun ex w' => ex = .returned (.tuple #[]) ∧ Ob w w' (.slice ha n2 hc) ss [(.slice a19 n19 k19, unsX kind (trn ss)), (.slice za n2 zc, trn ss), (.slice ga n gc, xs)] := by
    have hg := OB19.out.g
    rw [HT2.out] at hg
    refine (layB_any _ w.heap.size ha a2 n2 hc k2 (trn ss) ss w19 hg HT2.out (HS.out.below OB19.out.bel) (fun g hg2 h1 => by have := (OB19.out.g.lt g hg2).1; omega) (by omega)).mono ?_
    rintro ex w' ⟨h1, h2, h3⟩
    exact ⟨h1, OB19.out.laid h3 (by rw [HL2.out]; exact h2)⟩
  clear own19 bel19 OB18
  go_upto_region 24 with (go_at_call 55; refine c55.mono ?_; rintro ex w20 ⟨rfl, ob20⟩)
  have OB20 : Hid (Ob w w20 (.slice ha n2 hc) ss [(.slice a19 n19 k19, unsX kind (trn ss)), (.slice za n2 zc, trn ss), (.slice ga n gc, xs)]) := ob20
  have c11 : Calls Try.prog 11 #[.int .u8 kind, .slice ha n2 hc] w20 fun ex w' => ∃ a' n' c', ex = .returned (.tuple #[.slice a' n' c', .int .i64 (unsE kind ss)]) ∧ w'.ownsRow w20.heap.size 5 1 (.slice a' n' c') (unsX kind ss).length ((unsX kind ss).map bv) ∧ Below w20.heap.size w20 w' := by
    have hg := ob20.g
    rw [HL2.out] at hg
    obtain ⟨sa, sc, hv, hBs⟩ := own_slice hg HL2.out HSL.out
    injection hv with e1 _ e3
    subst e1 e3
    exact unseal_any _ kind ha n2 hc ss w20 hk hBs
  clear c55 ob20 OB19
  go_upto_region 25 with (go_at_call 11; refine c11.mono ?_; rintro ex w21 ⟨a21, n21, k21, rfl, own21, bel21⟩; clear c11)
  have OB21 : Hid (Ob w w21 (.slice ha n2 hc) ss [(.slice a21 n21 k21, unsX kind ss), (.slice a19 n19 k19, unsX kind (trn ss)), (.slice za n2 zc, trn ss), (.slice ga n gc, xs)]) := OB20.out.add bel21 own21
  have c19 := refUnseal_any _ kind za n2 zc (trn ss) w21 hk (OB21.out.bs (by simp) (trn_lt ss)).2
  clear own21 bel21 OB20
  go_upto_region 26 with (go_at_call 19; refine c19.mono ?_; rintro ex w22 ⟨a22, n22, k22, rfl, own22, bel22⟩; clear c19)
  have OB22 : Hid (Ob w w22 (.slice ha n2 hc) ss [(.slice a22 n22 k22, unsX kind (trn ss)), (.slice a21 n21 k21, unsX kind ss), (.slice a19 n19 k19, unsX kind (trn ss)), (.slice za n2 zc, trn ss), (.slice ga n gc, xs)]) := OB21.out.add bel22 own22
  have c19 := refUnseal_any _ kind a2 n2 k2 ss w22 hk (HS.out.below OB22.out.bel)
  clear own22 bel22 OB21
  go_upto_region 27 with (go_at_call 19; refine c19.mono ?_; rintro ex w23 ⟨a23, n23, k23, rfl, own23, bel23⟩; clear c19)
  have OB23 : Hid (Ob w w23 (.slice ha n2 hc) ss [(.slice a23 n23 k23, unsX kind ss), (.slice a22 n22 k22, unsX kind (trn ss)), (.slice a21 n21 k21, unsX kind ss), (.slice a19 n19 k19, unsX kind (trn ss)), (.slice za n2 zc, trn ss), (.slice ga n gc, xs)]) := OB22.out.add bel23 own23
  clear own23 bel23 OB22
  have d1 : Calls Try.prog 12 #[.slice a19 n19 k19, .slice a22 n22 k22] w23 fun ex w' => ex = .returned (.bool true) ∧ ∃ k, w' = w23.drewN k := by
    have := same_any _ _ _ _ _ _ _ _ _ _ w23 (OB23.out.bs (a := a19) (n := n19) (c := k19) (ys := unsX kind (trn ss)) (by simp) (unsX_lt (trn_lt ss))).2 (OB23.out.bs (a := a22) (n := n22) (c := k22) (ys := unsX kind (trn ss)) (by simp) (unsX_lt (trn_lt ss))).2
    rw [decide_eq_true rfl] at this; exact this
  have d2 : ∀ nd, Calls Try.prog 12 #[.slice a21 n21 k21, .slice a23 n23 k23] (w23.drewN nd) fun ex w' => ex = .returned (.bool true) ∧ ∃ k, w' = (w23.drewN nd).drewN k := by
    intro nd
    have := same_any _ _ _ _ _ _ _ _ _ _ (w23.drewN nd) ((OB23.out.drewN nd).bs (a := a21) (n := n21) (c := k21) (ys := unsX kind ss) (by simp) (unsX_lt HSL.out)).2 ((OB23.out.drewN nd).bs (a := a23) (n := n23) (c := k23) (ys := unsX kind ss) (by simp) (unsX_lt HSL.out)).2
    rw [decide_eq_true rfl] at this; exact this
  have d3 : ∀ nd, Calls Try.prog 12 #[.slice ga n gc, .slice a n c] (w23.drewN nd) fun ex w' => ex = .returned (.bool true) ∧ ∃ k, w' = (w23.drewN nd).drewN k := by
    intro nd
    have := same_any _ _ _ _ _ _ _ _ _ _ (w23.drewN nd) ((OB23.out.drewN nd).bs (a := ga) (n := n) (c := gc) (ys := xs) (by simp) HXL.out).2 (HB.out.below (OB23.out.drewN nd).bel)
    rw [decide_eq_true rfl] at this; exact this
  have d4 : ∀ nd, Calls Try.prog 12 #[.slice ha n2 hc, .slice a2 n2 k2] (w23.drewN nd) fun ex w' => ex = .returned (.bool true) ∧ ∃ k, w' = (w23.drewN nd).drewN k := by
    intro nd
    have hg := (OB23.out.drewN nd).g
    rw [HL2.out] at hg
    obtain ⟨sa, sc, hv, hBs⟩ := own_slice hg HL2.out HSL.out
    injection hv with e1 _ e3
    subst e1 e3
    have := same_any _ _ _ _ _ _ _ _ _ _ (w23.drewN nd) hBs (HS.out.below (OB23.out.drewN nd).bel)
    rw [decide_eq_true rfl] at this; exact this
  go_wp2_with (first | (go_at_call_of 12 a19; refine d1.mono ?_; rintro ex w24 ⟨rfl, m1, rfl⟩) | (go_at_call_of 12 a21; refine (d2 _).mono ?_; rintro ex w24 ⟨rfl, m2, rfl⟩) | (go_at_call_of 12 ga; refine (d3 _).mono ?_; rintro ex w24 ⟨rfl, m3, rfl⟩) | (go_at_call_of 12 ha; refine (d4 _).mono ?_; rintro ex w24 ⟨rfl, m4, rfl⟩))
  go_ret
  exact ⟨rfl, (OB23.out.drewN _).bel⟩

end Go.Proofs.Ytakdfpenpodplaa
