/-
  'untold'.
-/
import Derived.Test.YtgapljgnedbkiaaUsState
import Derived.Deep.CutBlock
namespace Go.Proofs.Ytgapljgnedbkiaa
open Go.RowKit
set_option linter.unusedVariables false

theorem rdX_whole (xs : List Int) (n : Nat) (h : xs.length = n) : rdX xs 0 n = xs := by subst h; exact rdX_all xs

/-- within a round: the operation's block, and the words that Read should tell -/
structure Uw (w0 : World) (s g n cg q : Nat) (Fs Gx Gw : Nat → Prop) (xa wa : Option Addr) (xc wc L : Nat) (ms R : List Int) (es : List En) (d : OpD) (da : Option Addr) (dn dc : Nat) (w : World) : Prop where
  us : Us w0 s g n cg Fs Gx xa xc ms es w
  blk : OpBlk w q d da dn dc
  zw : Zs w Gw wa L wc R
  gw : ∀ k, Gw k → ¬ Fs k ∧ k < w.heap.size
  qf : ¬ Fs q
  ql : q < w.heap.size

namespace Uw
variable {w0 w w' : World} {s g n cg q : Nat} {Fs Gx Gw : Nat → Prop} {xa wa : Option Addr} {xc wc L : Nat} {ms R : List Int} {es : List En} {d : OpD} {da : Option Addr} {dn dc : Nat}
theorem kept (h : Uw w0 s g n cg q Fs Gx Gw xa wa xc wc L ms R es d da dn dc w) (k : Kept No w w') : Uw w0 s g n cg q Fs Gx Gw xa wa xc wc L ms R es d da dn dc w' :=
  ⟨h.us.kept k, h.blk.kept k (fun h => h), h.zw.kept k (fun _ _ h => h), fun b hb => ⟨(h.gw b hb).1, Nat.lt_of_lt_of_le (h.gw b hb).2 k.size⟩, h.qf, Nat.lt_of_lt_of_le h.ql k.size⟩
theorem keep {Fs' : Nat → Prop} {es' : List En} {l : Value} (h : Uw w0 s g n cg q Fs Gx Gw xa wa xc wc L ms R es d da dn dc w) (u : Us w0 s g n cg Fs' Gx xa xc ms es' w') (k : Kept Fs w w') (hne : ∀ k, k < w.heap.size → ¬ Fs k → l.ownBlock ≠ some k → ¬ Fs' k) (hl : ∀ k, l.ownBlock = some k → ¬ Gw k ∧ k ≠ q) : Uw w0 s g n cg q Fs' Gx Gw xa wa xc wc L ms R es' d da dn dc w' :=
  ⟨u, h.blk.kept k h.qf, h.zw.kept k (fun b hb => (h.gw b hb).1), fun b hb => ⟨hne b (h.gw b hb).2 (h.gw b hb).1 (fun e => (hl b e).1 hb), Nat.lt_of_lt_of_le (h.gw b hb).2 k.size⟩, hne q h.ql h.qf (fun e => (hl q e).2 rfl), Nat.lt_of_lt_of_le h.ql k.size⟩
end Uw

set_option maxRecDepth 100000 in
set_option maxHeartbeats 6000000 in
theorem untold_any (F : Nat → Prop) (N : Int) (a sa : Option Addr) (n c sm sc : Nat) (xs : List Int) (os : List OpD) (w : World) (hz : Zs w F a n c xs) (hs : Sc w sa sm sc os) :
    Calls Try.prog 18 #[.int .i64 N, .slice a n c, .slice sa sm sc] w fun ex w' => ex = .returned (.bool true) ∧ Kept No w w' := by
  have hsc := hs.cap
  have hsx := hs.max
  have HS : Hid (Sc w sa sm sc os) := hs
  have HZ : Hid (Zs w F a n c xs) := hz
  have c15 := refNew_any F N a n c xs w hz
  have hM := nwR_length N xs
  obtain ⟨X, hX⟩ : ∃ X, X = nwR N xs := ⟨_, rfl⟩
  obtain ⟨bN, hbN⟩ : ∃ b, b = nwOk N xs.length := ⟨_, rfl⟩
  rw [← hX, ← hbN] at c15
  rw [← hX] at hM
  obtain ⟨M, hMl⟩ : ∃ M, M = X.length := ⟨_, rfl⟩
  rw [← hMl] at c15 hM
  have HX : Hid (X = nwR N xs ∧ bN = nwOk N xs.length ∧ X.length = M) := ⟨hX, hbN, hMl.symm⟩
  clear hs hz hX hbN hMl
  go_enter Try.func18, Try.ntmps18
  go_upto_region 7 with (first
    | (go_at_call 15; refine c15.mono ?_; rintro ex w1 ⟨v1, rfl, o1, k1⟩; obtain ⟨xa, xc, rfl⟩ := owns_shp o1; have O1 : Hid (w1.ownsRow w.heap.size 2 1 (.slice xa M xc) M (X.map iv) ∧ Kept No w w1) := ⟨o1, k1⟩; have c6 := new_any F N a n c xs w1 (HZ.out.kept k1 (fun _ _ h => h)); rw [← HX.out.1, ← HX.out.2.1, HX.out.2.2] at c6; clear o1 k1 c15)
    | (go_at_call 6; refine c6.mono ?_; rintro ex w2 ⟨v2, rfl, o2, k2⟩; obtain ⟨aa, ac, rfl⟩ := owns_shp o2; have O2 : Hid (w2.ownsRow w1.heap.size 2 1 (.slice aa M ac) M (X.map iv) ∧ Kept No w1 w2) := ⟨o2, k2⟩; have c6b := new_any F N a n c xs w2 ((HZ.out.kept O1.out.2 (fun _ _ h => h)).kept k2 (fun _ _ h => h)); rw [← HX.out.1, ← HX.out.2.1, HX.out.2.2] at c6b; clear o2 k2 c6)
    | (go_at_call 6; refine c6b.mono ?_; rintro ex w3 ⟨v3, rfl, o3, k3⟩; obtain ⟨ba, bc, rfl⟩ := owns_shp o3; have O3 : Hid (w3.ownsRow w2.heap.size 2 1 (.slice ba M bc) M (X.map iv) ∧ Kept No w2 w3) := ⟨o3, k3⟩; have c11 := marked_mm _ aa M ac X w3 ((Zs.row O2.out.1 HX.out.2.2).kept k3 (fun _ _ h => h)) (by omega); clear o3 k3 c6b)
    | (go_at_call 11; refine c11.mono ?_; rintro ex w4 ⟨g, cg, rfl, hg, hm, k4⟩; have O4 : Hid (w3.heap.size ≤ g ∧ Mm w4 w3.heap.size (.slice (some ⟨g, 0, none⟩) M cg) X (mks 40) ∧ Kept No w3 w4) := ⟨hg, hm, k4⟩; clear hg hm k4 c11))
  have HU0 : Hid (Us w w4.heap.size g M cg (fun k => k = w4.heap.size) (fun k => (Value.slice xa M xc).ownBlock = some k) xa xc X [] (w4.alloc (.cells #[.slice none 0 0, .slice none 0 0] 48))) := by
    have s1 := O1.out.2.size
    have s2 := O2.out.2.size
    have s3 := O3.out.2.size
    have s4 := O4.out.2.2.size
    have kk := (O2.out.2.trans O3.out.2 (fun k h => h.elim)).trans O4.out.2.2 (fun k h => h.elim)
    refine us_new (O4.out.2.1.low (by omega)) HX.out.2.2 hM ((Zs.row O1.out.1 HX.out.2.2).kept kk (fun _ _ h => h)) ?_ (by have := O4.out.1; omega) (O1.out.2.trans kk (fun k h => h.elim)).below0
    intro k e
    have := (O1.out.1.lt k e).2
    have := O4.out.1
    exact ⟨by omega, by omega⟩
  have HAB : Hid ((w4.alloc (.cells #[.slice none 0 0, .slice none 0 0] 48)).ownsRow w1.heap.size 2 1 (.slice aa M ac) M (X.map iv) ∧ (w4.alloc (.cells #[.slice none 0 0, .slice none 0 0] 48)).ownsRow w2.heap.size 2 1 (.slice ba M bc) M (X.map iv) ∧ (∀ k, (Value.slice aa M ac).ownBlock = some k → w1.heap.size ≤ k ∧ k < w2.heap.size) ∧ (∀ k, (Value.slice ba M bc).ownBlock = some k → w2.heap.size ≤ k ∧ k < w3.heap.size) ∧ (∀ k, (Value.slice xa M xc).ownBlock = some k → k < w1.heap.size) ∧ w3.heap.size ≤ g ∧ g < w4.heap.size ∧ w.heap.size ≤ w1.heap.size ∧ w1.heap.size ≤ w2.heap.size ∧ w2.heap.size ≤ w3.heap.size) := by
    have kx : Kept No w4 (w4.alloc (.cells #[.slice none 0 0, .slice none 0 0] 48)) := (Kept.refl No w4).alloc _
    exact ⟨kx.owns (O4.out.2.2.owns (O3.out.2.owns O2.out.1 (fun _ _ h => h)) (fun _ _ h => h)) (fun _ _ h => h), kx.owns (O4.out.2.2.owns O3.out.1 (fun _ _ h => h)) (fun _ _ h => h), fun k e => O2.out.1.lt k e, fun k e => O3.out.1.lt k e, fun k e => (O1.out.1.lt k e).2, O4.out.1, O4.out.2.1.lt, O1.out.2.size, O2.out.2.size, O3.out.2.size⟩
  clear O1 O2 O3 O4
  have ck := HU0.out.keep (show (w4.alloc (.cells #[.slice none 0 0, .slice none 0 0] 48)).ownsRow w1.heap.size 2 1 (.slice aa M ac) X.length (X.map iv) by rw [HX.out.2.2]; exact HAB.out.1) HU0.out.zx HAB.out.2.2.2.2.2.2.2.1 (fun k e => by have h1 := HAB.out.2.2.1 k e; have h2 := HAB.out.2.2.2.2.2; exact ⟨by omega, by omega, fun h => by have := HAB.out.2.2.2.2.1 k h; omega⟩) (by rw [HX.out.2.2]; exact hM)
  go_upto_region 9 with (go_at_call 27; refine ck.mono ?_; rintro ex w5 ⟨rfl, F5, es5, h5, k5, n5⟩)
  have ok5 : w5.ownsRow w2.heap.size 2 1 (.slice ba M bc) X.length (X.map iv) := by
    rw [HX.out.2.2]
    exact k5.owns HAB.out.2.1 (fun k e e2 => by have h1 := HAB.out.2.2.2.1 k e; have h2 := HAB.out.2.2.2.2.2; omega)
  have ck2 := h5.keep ok5 h5.zx (by have h2 := HAB.out.2.2.2.2.2; omega) (fun k e => by
    have h1 := HAB.out.2.2.2.1 k e
    have h2 := HAB.out.2.2.2.2.2
    refine ⟨n5 k (by simp; omega) (by omega) (fun e2 => by have h3 := HAB.out.2.2.1 k e2; omega), by omega, fun h => by have := HAB.out.2.2.2.2.1 k h; omega⟩) (by rw [HX.out.2.2]; exact hM)
  clear ok5 n5 k5 h5 ck
  go_wp2_with (go_at_call 27; refine ck2.mono ?_; rintro ex w6 ⟨rfl, F6, es6, h6, _⟩; have HU6 : Hid (Us w w4.heap.size g M cg F6 (fun k => (Value.slice xa M xc).ownBlock = some k) xa xc X es6 w6) := h6; clear h6 ck2)
  obtain ⟨s, hs⟩ : ∃ s, s = w4.heap.size := ⟨_, rfl⟩
  rw [← hs] at HU6 ⊢
  clear hs HAB HU0
  go_loopw [7, 15] (fun x i wr => ∃ (j : Nat) (Fs Gx : Nat → Prop) (xa : Option Addr) (xc : Nat) (ms : List Int) (es : List En), j ≤ sm ∧ i = .int .i64 j ∧ x = .slice xa M xc ∧ Us w s g M cg Fs Gx xa xc ms es wr) (fun _ i _ => sm - (intOf i).toNat)
  case atStart => exact ⟨0, F6, _, xa, xc, X, es6, by omega, rfl, rfl, HU6.out⟩
  case round =>
    clear HU6
    obtain ⟨j, Fs, Gx, xa, xc, ms, es, hj, rfl, rfl, hu⟩ := hrel
    have HU : Hid (Us w s g M cg Fs Gx xa xc ms es wr) := hu
    clear hu
    by_cases hlt : j < sm
    · obtain ⟨d, b, o, da, dn, dc, hd, rfl, hat, hdz, hdn, _, hdA, hdN, _, _⟩ := HS.out.get HU.out.bel hlt
      obtain ⟨q0, q1, q2, q3, q4, q5⟩ := hat
      obtain ⟨K, Fq, A, Nq, V, ds⟩ := d
      simp only at q0 q1 q2 q3 q4 q5 hdz hdN
      obtain ⟨hN1, hN2⟩ := hdN
      have HDZ : Hid (Zs wr (fun k => k < w.heap.size) da dn dc ds) := hdz
      clear hd hdz hdA
      obtain ⟨wo, hwo⟩ : ∃ wo, wo = wr := ⟨_, rfl⟩
      subst hwo
      go_upto_region 14 with fail
      clear q0 q1 q2 q3 q4 q5
      have HB : Hid (Us w s g M cg Fs Gx xa xc ms es (wo.alloc (.cells #[.int .i64 K, .int .i64 Fq, .int .i64 A, .int .i64 Nq, .int .i64 V, .slice da dn dc] 34)) ∧ OpBlk (wo.alloc (.cells #[.int .i64 K, .int .i64 Fq, .int .i64 A, .int .i64 Nq, .int .i64 V, .slice da dn dc] 34)) wo.heap.size ⟨K, Fq, A, Nq, V, ds⟩ da dn dc ∧ Zs (wo.alloc (.cells #[.int .i64 K, .int .i64 Fq, .int .i64 A, .int .i64 Nq, .int .i64 V, .slice da dn dc] 34)) (fun k => k < w.heap.size) da dn dc ds) := ⟨HU.out.kept ((Kept.refl No wo).alloc _), OpBlk.new wo ⟨K, Fq, A, Nq, V, ds⟩ da dn dc, HDZ.out.kept ((Kept.refl No wo).alloc _) (fun _ _ h => h)⟩
      obtain ⟨e0, e1, e2, e3, e4, e5⟩ := HB.out.2.1.cells
      simp only at e0 e1 e2 e3 e4 e5
      have HQ : Hid (¬ Fs wo.heap.size ∧ wo.heap.size ≠ g ∧ w.heap.size ≤ wo.heap.size) := ⟨fun h => by have := HU.out.sh.flt _ h; omega, by have := HU.out.mm.lt; omega, HU.out.bel.size⟩
      go_cut [80] (fun v wy => v = .bool false ∧ Us w s g M cg Fs Gx xa xc ms es wy ∧ OpBlk wy wo.heap.size ⟨K, Fq, A, Nq, V, ds⟩ da dn dc ∧ Zs wy (fun k => k < w.heap.size) da dn dc ds ∧ wo.heap.size < wy.heap.size)
      case first =>
        by_cases hj4 : (j : Int) < 4
        · have c28 := memPlaced_any _ _ A xa da M xc dn dc ms ds _ HB.out.1.zx HB.out.2.2 hM hdn
          go_wp2_with (go_at_call 28; refine c28.mono ?_; rintro ex w8 ⟨rfl, k8⟩; have H8 : Hid (Us w s g M cg Fs Gx xa xc ms es w8 ∧ OpBlk w8 wo.heap.size ⟨K, Fq, A, Nq, V, ds⟩ da dn dc ∧ Zs w8 (fun k => k < w.heap.size) da dn dc ds ∧ wo.heap.size < w8.heap.size) := ⟨HB.out.1.kept k8, HB.out.2.1.kept k8 (fun h => h), HB.out.2.2.kept k8 (fun _ _ h => h), (by have := k8.size; simp at this; omega)⟩; clear k8 c28)
          go_meet
          case rel => exact ⟨rfl, H8.out⟩
        · have hj5 : decide ((j : Int) < 4) = false := decide_eq_false hj4
          go_wp2
          go_meet
          case rel => exact ⟨rfl, HB.out.1, HB.out.2.1, HB.out.2.2, by simp⟩
      case rest =>
        obtain ⟨rfl, hu1, hb1, hz1, hl1⟩ := hcut
        clear e0 e1 e2 e3 e4 e5 HB HU HDZ
        have H1 : Hid (Us w s g M cg Fs Gx xa xc ms es wc ∧ OpBlk wc wo.heap.size ⟨K, Fq, A, Nq, V, ds⟩ da dn dc ∧ Zs wc (fun k => k < w.heap.size) da dn dc ds ∧ wo.heap.size < wc.heap.size) := ⟨hu1, hb1, hz1, hl1⟩
        clear hu1 hb1 hz1 hl1
        obtain ⟨e0, e1, e2, e3, e4, e5⟩ := H1.out.2.1.cells
        simp only at e0 e1 e2 e3 e4 e5
        by_cases hK : K = 3
        · have hK1 : (K != 3) = false := by simp [hK]
          have hK2 : (K == 3) = true := by simp [hK]
          clear hK
          have c24 := refRead_any _ A Nq xa M xc ms wc H1.out.1.zx hM
          have hRl := rdR_length ms A Nq (by rw [H1.out.1.lm]; exact hM)
          obtain ⟨R, hR⟩ : ∃ R, R = rdR ms A Nq := ⟨_, rfl⟩
          obtain ⟨L, hL⟩ : ∃ L, L = R.length := ⟨_, rfl⟩
          rw [← hR, ← hL] at c24 hRl
          have HR : Hid (R = rdR ms A Nq ∧ R.length = L) := ⟨hR, hL.symm⟩
          clear hR hL
          go_wp2_with (go_at_call 24; refine c24.mono ?_; rintro ex w2 ⟨v2, rfl, o2, k2⟩; obtain ⟨wa, wc2, rfl⟩ := owns_shp o2; have H2 : Hid (∃ Gw, Uw w s g M cg wo.heap.size Fs Gx Gw xa wa xc wc2 L ms R es ⟨K, Fq, A, Nq, V, ds⟩ da dn dc w2) := ⟨_, H1.out.1.kept k2, H1.out.2.1.kept k2 (fun h => h), Zs.row o2 HR.out.2, (fun k e => ⟨(fun hF => by have := H1.out.1.sh.flt k hF; have := (o2.lt k e).1; omega), (o2.lt k e).2⟩), HQ.out.1, Nat.lt_of_lt_of_le H1.out.2.2.2 k2.size⟩; clear o2 k2 c24)
          go_loopw [21] (fun i wk => ∃ (q : Nat) (Fs Gw : Nat → Prop) (es : List En), q ≤ 2 ∧ i = .int .i64 q ∧ Uw w s g M cg wo.heap.size Fs Gx Gw xa wa xc wc2 L ms R es ⟨K, Fq, A, Nq, V, ds⟩ da dn dc wk) (fun i _ => 2 - (intOf i).toNat)
          case atStart =>
            obtain ⟨Gw, h2⟩ := H2.out
            exact ⟨0, Fs, Gw, es, by omega, rfl, h2⟩
          case round =>
            clear H2 H1 HQ e0 e1 e2 e3 e4 e5
            obtain ⟨q, Fs, Gw, es, hq, rfl, huw⟩ := hrel
            have HW : Hid (Uw w s g M cg wo.heap.size Fs Gx Gw xa wa xc wc2 L ms R es ⟨K, Fq, A, Nq, V, ds⟩ da dn dc wr) := huw
            clear huw
            by_cases hq2 : q < 2
            · obtain ⟨e0, e1, e2, e3, e4, e5⟩ := HW.out.blk.cells
              simp only at e0 e1 e2 e3 e4 e5
              have c8 := read_any _ A Nq (some ⟨g, 0, none⟩) M cg ms wr HW.out.us.mm.zsg hM
              rw [← HR.out.1, HR.out.2] at c8
              go_upto_region 27 with (first
                | (go_at_call 8; refine c8.mono ?_; rintro ex w3 ⟨v3, rfl, o3, k3⟩; obtain ⟨la, lc, rfl⟩ := owns_shp o3; have H3 : Hid (Uw w s g M cg wo.heap.size Fs Gx Gw xa wa xc wc2 L ms R es ⟨K, Fq, A, Nq, V, ds⟩ da dn dc w3 ∧ ∀ k, (Value.slice la L lc).ownBlock = some k → wr.heap.size ≤ k) := ⟨HW.out.kept k3, fun k e => (o3.lt k e).1⟩; have ck := H3.out.1.us.keep (show w3.ownsRow wr.heap.size 2 1 (.slice la L lc) R.length (R.map iv) by rw [HR.out.2]; exact o3) H3.out.1.zw HW.out.us.bel.size (fun k e => by have h1 := (o3.lt k e).1; exact ⟨(fun h => by have := HW.out.us.sh.flt k h; omega), (by have := HW.out.us.mm.lt; omega), (fun h => by have := (HW.out.us.gx k h).2.2; omega)⟩) (by rw [HR.out.2]; exact hRl); clear o3 k3 c8 e0 e1 e2 e3 e4 e5)
                | (go_at_call 27; refine ck.mono ?_; rintro ex w4 ⟨rfl, F4, es4, u4', k4, n4⟩; have H4 : Hid (Uw w s g M cg wo.heap.size F4 Gx Gw xa wa xc wc2 L ms R es4 ⟨K, Fq, A, Nq, V, ds⟩ da dn dc w4) := H3.out.1.keep u4' k4 n4 (fun k e => by have h1 := H3.out.2 k e; exact ⟨(fun h => by have := (HW.out.gw k h).2; omega), (by have := HW.out.ql; omega)⟩); clear u4' k4 n4 ck H3))
              have c8b := read_yes _ 0 M (some ⟨g, 0, none⟩) M cg ms w4 H4.out.us.mm.zsg hM (wi_iff.2 (by omega))
              rw [rdX_whole ms M H4.out.us.lm, H4.out.us.lm] at c8b
              go_wp2_with (first
                | (go_at_call 8; refine c8b.mono ?_; rintro ex w5 ⟨v5, rfl, o5, k5⟩; obtain ⟨ta, tc, rfl⟩ := owns_shp o5; have H5 : Hid (Uw w s g M cg wo.heap.size F4 Gx Gw xa wa xc wc2 L ms R es4 ⟨K, Fq, A, Nq, V, ds⟩ da dn dc w5 ∧ ∀ k, (Value.slice ta M tc).ownBlock = some k → w4.heap.size ≤ k) := ⟨H4.out.kept k5, fun k e => (o5.lt k e).1⟩; have ck5 := H5.out.1.us.keep (show w5.ownsRow w4.heap.size 2 1 (.slice ta M tc) ms.length (ms.map iv) by rw [H4.out.us.lm]; exact o5) H5.out.1.us.zx H4.out.us.bel.size (fun k e => by have h1 := (o5.lt k e).1; exact ⟨(fun h => by have := H4.out.us.sh.flt k h; omega), (by have := H4.out.us.mm.lt; omega), (fun h => by have := (H4.out.us.gx k h).2.2; omega)⟩) (by rw [H4.out.us.lm]; exact hM); clear o5 k5 c8b)
                | (go_at_call 27; refine ck5.mono ?_; rintro ex w6 ⟨rfl, F6, es6, u6', k6, n6⟩; have H6 : Hid (Uw w s g M cg wo.heap.size F6 Gx Gw xa wa xc wc2 L ms R es6 ⟨K, Fq, A, Nq, V, ds⟩ da dn dc w6) := H5.out.1.keep u6' k6 n6 (fun k e => by have h1 := H5.out.2 k e; exact ⟨(fun h => by have := (H4.out.gw k h).2; omega), (by have := H4.out.ql; omega)⟩); clear u6' k6 n6 ck5 H5))
              go_roundw
              case rel => exact ⟨q + 1, F6, Gw, es6, by omega, by go_num, H6.out⟩
              case measure => simp [intOf]; omega
            · go_wp2
              go_roundw
              case rel => exact ⟨j + 1, Fs, Gx, xa, xc, ms, es, by omega, by go_num, rfl, HW.out.us⟩
              case measure => simp [intOf]; omega
        · have hK1 : (K != 3) = true := by simpa using hK
          have hK2 : (K == 3) = false := by simpa using hK
          clear hK
          have c17 := step_any wc w.heap.size g M cg ms Gx xa xc _ da dn dc K Fq A Nq V ds (H1.out.1.stp H1.out.2.2.1 (fun k hk e => by have := H1.out.1.ghi; omega) hdn) hN2
          go_wp2_with (go_at_call 17; refine c17.mono ?_; rintro ex w2 ⟨ya, yc, rfl, hd2⟩; have H2 : Hid (∃ Gy, Us w s g M cg Fs Gy ya yc (stX ms ⟨K, Fq, A, Nq, V, ds⟩) es w2) := H1.out.1.step hd2; clear hd2 c17)
          go_roundw
          case rel =>
            obtain ⟨Gy, hy⟩ := H2.out
            exact ⟨j + 1, Fs, Gy, ya, yc, _, es, by omega, by go_num, rfl, hy⟩
          case measure => simp [intOf]; omega
    · have hjm : j = sm := by omega
      subst hjm
      have c29 := stands_any Fs s es wr HU.out.sh HU.out.len HU.out.fit
      go_wp2_with (go_at_call 29; refine c29.mono ?_; rintro ex w2 ⟨rfl, k2⟩; have H2 : Hid (Kept Fs wr w2) := k2; clear k2 c29)
      go_ret
      exact ⟨rfl, Kept.of_below (HU.out.bel.trans (H2.out.below HU.out.fhi HU.out.bel.size))⟩

end Go.Proofs.Ytgapljgnedbkiaa
