/-
  The law CodecReads, walked.
-/
import Derived.Test.YtakdfpenpodplaaUnread
namespace Go.Proofs.Ytakdfpenpodplaa
open Go.RowKit
set_option linter.unusedVariables false

/-- a Reader and the document's, apart -/
structure Rs (w0 : World) (Fr Fx : Nat → Prop) (pr px : Nat) (xs : List Nat) (e : Int) (w : World) : Prop where
  r : Rd w Fr pr xs e
  x : Il w Fx px xs e
  d : ∀ k, Fr k → ¬ Fx k
  xl : ∀ k, Fx k → k < w.heap.size
  hr : ∀ k, Fr k → w0.heap.size ≤ k
  hx : w0.heap.size ≤ px
  bel : Below w0.heap.size w0 w

theorem Rs.no {w0 w w' : World} {Fr Fx : Nat → Prop} {pr px : Nat} {xs : List Nat} {e : Int} (h : Rs w0 Fr Fx pr px xs e w) (k : Kept No w w') : Rs w0 Fr Fx pr px xs e w' :=
  ⟨h.r.kept k (fun _ _ h => h), h.x.kept k (fun _ _ h => h), h.d, fun j hj => Nat.lt_of_lt_of_le (h.xl j hj) k.size, h.hr, h.hx, h.bel.trans (k.below (fun _ e => e.elim) h.bel.size)⟩
theorem Rs.did {w0 w w' : World} {Fr Fx : Nat → Prop} {pr px : Nat} {xs xs' : List Nat} {e e' : Int} (h : Rs w0 Fr Fx pr px xs e w) (b : Both Fr Fx pr px xs' e' w w') : Rs w0 Fr Fx pr px xs' e' w' :=
  ⟨b.1, b.2.1, h.d, fun j hj => Nat.lt_of_lt_of_le (h.xl j hj) b.2.2.size, h.hr, h.hx, h.bel.trans (b.2.2.below (fun j q => q.elim (fun q => h.hr j (q ▸ h.r.fp)) (fun q => q ▸ h.hx)) h.bel.size)⟩
theorem Rs.drewN {w0 w : World} {Fr Fx : Nat → Prop} {pr px : Nat} {xs : List Nat} {e : Int} (h : Rs w0 Fr Fx pr px xs e w) (n : Nat) : Rs w0 Fr Fx pr px xs e (w.drewN n) := h.no ((Kept.refl No w).drewN n)

theorem Sc.below {w0 w : World} {a : Option Addr} {m : Nat} (h : Sc w0 a m) (b : Below w0.heap.size w0 w) : Sc w a m := by
  intro i hi
  obtain ⟨sb, so, K, N, Wd, Fl, ba, bn, bc, la, ln, lc, M, h1, h2, h3⟩ := h i hi
  exact ⟨sb, so, K, N, Wd, Fl, ba, bn, bc, la, ln, lc, M, h1, h2, h3.below b⟩

theorem rs_new {w w1 w2 w3 : World} {a : Option Addr} {n c : Nat} {b0 : List Nat} {pr g1 : Nat} (hb : Bs w (fun b => b < w.heap.size) a n c b0) (hn : n ≤ 140737488351232) (k1 : Below w.heap.size w w1) (hg : w.heap.size ≤ g1 ∧ g1 < w1.heap.size)
    (h2 : Rd w2 (fun k => w1.heap.size ≤ k ∧ k < w2.heap.size) pr b0 0) (k2 : Below w1.heap.size w1 w2) (k3 : Kept (fun k => k = g1) w2 w3) :
    ∃ Fr Fx, Rs w Fr Fx pr w3.heap.size b0 0 (w3.alloc (.cells #[.slice a n c, .int .i64 0, .int .i64 0] 57)) := by
  have hs1 := k1.size
  have hs2 := k2.size
  have hs3 := k3.size
  obtain ⟨W, hW⟩ : ∃ W, W = w3.alloc (.cells #[.slice a n c, .int .i64 0, .int .i64 0] 57) := ⟨_, rfl⟩
  rw [← hW]
  have z : W.heap.size = w3.heap.size + 1 := by rw [hW]; exact size_alloc _ _
  have K : Kept No w3 W := by rw [hW]; exact (Kept.refl No w3).alloc _
  have ob : W.heap[w3.heap.size]? = some (.cells #[.slice a n c, .int .i64 0, .int .i64 0] 57 (0, 0)) := by rw [hW]; exact heap_alloc_new _ _
  have b3 : Below w.heap.size w w3 := (k1.trans (k2.mono k1.size)).trans (k3.below (fun k q => q ▸ hg.1) (by omega))
  have bW : Below w.heap.size w W := b3.trans (K.below (fun _ q => q.elim) b3.size)
  have hb3 := hb.kept (Kept.of_below (F := No) bW) (fun _ _ h => h)
  refine ⟨_, (fun k => k = w3.heap.size ∨ k < w.heap.size), (h2.kept k3 (fun b q q2 => by omega)).kept K (fun _ _ h => h),
    ⟨a, n, c, b0, 0, ⟨ob, hb3.mono (fun k q => ⟨.inr q, by omega⟩), Nat.zero_le _, .inl rfl⟩, rfl, hn⟩, ?_, ?_, ?_, by omega, bW⟩
  all_goals first
    | (intro k q; simp only at q ⊢; omega)
    | (intro k q; simp only at q; omega)
    | (intro k q; omega)

set_option maxRecDepth 100000 in
set_option maxHeartbeats 4000000 in
theorem codecReads_walk (G : Nat → Prop) (a a' : Option Addr) (n c m c' : Nat) (b0 : List Nat) (w : World) (hb : Bs w G a n c b0) (hs : Sc w a' m) (hn : n ≤ 140737488351232) (hm : m ≤ 9223372036854775807) (hmc : m ≤ c') :
    Calls Try.prog 7 #[.slice a n c, .slice a' m c'] w fun e w' => e = .returned (.bool true) ∧ Below w.heap.size w w' := by
  have q2 : ∀ (w : World) (a : Addr), (binOp .eql 37 (.pointer (some a)) (.pointer none)).run Try.prog w = .ok (.bool false) w := fun w a => by first | rfl | simp
  have hb' : Bs w (fun b => b < w.heap.size) a n c b0 := ⟨hb.len, hb.cap, hb.max, hb.nil, fun i hi => by obtain ⟨b, o, e, _, hc⟩ := hb.at' i hi; exact ⟨b, o, e, cell_lt hc, hc⟩, hb.lt⟩
  have HB : Hid (Bs w (fun b => b < w.heap.size) a n c b0) := hb'
  have HS : Hid (Sc w a' m) := hs
  have HL : Hid (b0.length = n) := hb.len
  have HXL : Hid (∀ x ∈ b0, x < 256) := hb.lt
  have c13 := marked_any _ a n c b0 w hb' (by omega)
  clear hb hs hb'
  go_enter Try.func7, Try.ntmps7
  go_upto_region 2 with (go_at_call 13; refine c13.mono ?_; rintro ex w1 ⟨g1, cap1, rfl, own1, bel1⟩)
  clear c13
  have O1 : Hid (w1.ownsRow w.heap.size 5 1 (.slice (some ⟨g1, 0, none⟩) (n + 70) cap1) (n + 70) ((b0 ++ List.replicate 70 165).map bv)) := own1
  have B1 : Hid (Below w.heap.size w w1) := bel1
  have c22 := newReader_any _ _ n cap1 b0 w1 (marked_bs own1 HL.out HXL.out) (by omega)
  clear own1 bel1
  go_upto_region 3 with (go_at_call 22; refine c22.mono ?_; rintro ex w2 ⟨pr, rfl, hr2, k2⟩)
  clear c22
  have HR2 : Hid (Rd w2 (fun k => w1.heap.size ≤ k ∧ k < w2.heap.size) pr b0 0 ∧ Below w1.heap.size w1 w2) := ⟨hr2, k2⟩
  have B2 : Hid (Below w.heap.size w w2) := B1.out.trans (k2.mono B1.out.size)
  have o12 : w2.ownsRow w.heap.size 5 1 (.slice (some ⟨g1, 0, none⟩) (n + 70) cap1) (n + 70) ((b0 ++ List.replicate 70 165).map bv) := (Kept.of_below (F := No) k2).owns O1.out (fun _ _ h => h)
  have c17 := left_any' (fun b => b < w.heap.size) w.heap.size g1 n cap1 a c b0 w2 (HB.out.kept (Kept.of_below (F := No) B2.out) (fun _ _ h => h)) (fun h => by have := (O1.out.lt g1 rfl).1; omega) o12 (by omega)
  clear hr2 k2 o12
  go_upto_region 5 with (go_at_call 17; refine c17.mono ?_; rintro ex w3 ⟨rfl, k3⟩)
  clear c17
  obtain ⟨Fr, Fx, hrs⟩ := rs_new HB.out (by omega) B1.out (O1.out.lt g1 rfl) HR2.out.1 HR2.out.2 k3
  have HRS : Hid (Rs w Fr Fx pr w3.heap.size b0 0 (w3.alloc (.cells #[.slice a n c, .int .i64 0, .int .i64 0] 57))) := hrs
  clear hrs k3 HR2 B2 B1 O1
  go_upto_region 7 with fail
  generalize w3.alloc (.cells #[.slice a n c, .int .i64 0, .int .i64 0] 57) = W0 at HRS ⊢
  generalize w3.heap.size = px at HRS ⊢
  go_loopw [8] (fun i wr => ∃ k : Nat, k ≤ m ∧ i = .int .i64 k ∧ ∃ xs e, Rs w Fr Fx pr px xs e wr) (fun i _ => m - (intOf i).toNat)
  case atStart => exact ⟨0, by omega, rfl, b0, 0, HRS.out⟩
  case round =>
    clear HRS
    obtain ⟨k, hk, rfl, xs, e, hrs⟩ := hrel
    have RS : Hid (Rs w Fr Fx pr px xs e wr) := hrs
    by_cases hlt : k < m
    · obtain ⟨sb, so, K, N, Wd, Fl, ba, bn, bc, la, ln, lc, M, rfl, hN, hop0⟩ := HS.out k hlt
      have hop := hop0.below hrs.bel
      obtain ⟨o0, o1, o2, o3, o4, o5, o6⟩ := hop
      have c1 := read_any Fr Fx pr px xs e K N Wd Fl ba bn bc la ln lc M wr hrs.r hrs.x hrs.d hrs.x.le hrs.xl
      unfold opV at c1
      obtain ⟨xs2, hxs2⟩ : ∃ xs2, xs2 = (rO xs e K N M).1 := ⟨_, rfl⟩
      obtain ⟨e2, he2⟩ : ∃ e2, e2 = (rO xs e K N M).2 := ⟨_, rfl⟩
      rw [← hxs2, ← he2] at c1
      clear hop0 hrs hxs2 he2
      go_wp2_with (go_at_call 39; refine c1.mono ?_; rintro ex w4 ⟨rfl, bo⟩)
      go_roundw
      case rel => exact ⟨k + 1, by omega, by go_num, xs2, e2, RS.out.did bo⟩
      case measure => simp [intOf]; omega
    · obtain ⟨D, hD⟩ : ∃ D, D = rdDone xs e := ⟨_, rfl⟩
      obtain ⟨L, hL⟩ : ∃ L, L = xs.length := ⟨_, rfl⟩
      have HD : Hid (D = rdDone xs e ∧ L = xs.length) := ⟨hD, hL⟩
      have c33 := rdone_any Fr pr xs e wr hrs.r
      rw [← hD] at c33
      clear hrs hD hL
      go_wp2_with (first
        | (go_at_call 33; refine c33.mono ?_; rintro ex wa ⟨rfl, na, hwa⟩; have RA : Hid (Rs w Fr Fx pr px xs e wa) := (by rw [hwa]; exact RS.out.drewN na); have c40 := inDone_any Fx px xs e wa RA.out.x; rw [← HD.out.1] at c40; clear hwa)
        | (go_at_call 40; refine c40.mono ?_; rintro ex wb ⟨rfl, nb, hwb⟩; have RB : Hid (Rs w Fr Fx pr px xs e wb) := (by rw [hwb]; exact RA.out.drewN nb); have c38 := left_any Fr pr xs e wb RB.out.r; rw [← HD.out.2] at c38; clear hwb)
        | (go_at_call 38; refine c38.mono ?_; rintro ex wc ⟨rfl, hwc⟩; obtain rfl := hwc.symm; have c41 := inLeft_any Fx px xs e wb RB.out.x; rw [← HD.out.2] at c41)
        | (go_at_call 41; refine c41.mono ?_; rintro ex wd ⟨rfl, nd, hwd⟩; have RD : Hid (Rs w Fr Fx pr px xs e wd) := (by rw [hwd]; exact RB.out.drewN nd); have c42 := unread_any _ a a' n c m c' b0 wd (HB.out.kept (Kept.of_below (F := No) RD.out.bel) (fun _ _ h => h)) (HS.out.below RD.out.bel) (by omega) (by omega) hmc; clear hwd)
        | (go_at_call 42; refine c42.mono ?_; rintro ex we ⟨rfl, be⟩))
      go_ret
      exact ⟨rfl, RD.out.bel.trans (be.mono RD.out.bel.size)⟩

end Go.Proofs.Ytakdfpenpodplaa
