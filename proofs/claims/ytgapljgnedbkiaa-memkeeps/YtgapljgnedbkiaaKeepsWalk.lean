/-
  'MemKeeps'.
-/
import Derived.Test.YtgapljgnedbkiaaReadsWalk
import Derived.Test.YtgapljgnedbkiaaLeft
import Derived.Test.YtgapljgnedbkiaaScript
import Derived.Test.YtgapljgnedbkiaaRefWrite
import Derived.Deep.CutBlock
namespace Go.Proofs.Ytgapljgnedbkiaa
open Go.RowKit
set_option linter.unusedVariables false

theorem Mm.low {w : World} {B B' : Nat} {v : Value} {xs ys : List Int} (h : Mm w B v xs ys) (hB : B' ≤ B) : Mm w B' v xs ys := by
  rcases h with h | ⟨g, cap, rfl, hl, h0 | ⟨g', cap', cur, hv, hb, r⟩⟩
  · exact .inl h
  · exact .inr ⟨g, cap, rfl, hl, .inl h0⟩
  · exact .inr ⟨g, cap, rfl, hl, .inr ⟨g', cap', cur, hv, Nat.le_trans hB hb, r⟩⟩
theorem Mm.zsg {w : World} {B g n c : Nat} {xs ys : List Int} (h : Mm w B (.slice (some ⟨g, 0, none⟩) n c) xs ys) : Zs w (fun k => k = g) (some ⟨g, 0, none⟩) n c xs := by
  obtain ⟨a', c', hv, hz⟩ := h.zs
  injection hv with e1 e2 e3
  subst e1 e2 e3
  exact hz.mono (fun k e => by simp [Value.ownBlock] at e; exact e.symm)

/-- the memory and its first words, made since w0 -/
structure Kp (w0 : World) (n g cg f cf : Nat) (xs fs : List Int) (w : World) : Prop where
  mm : Mm w w0.heap.size (.slice (some ⟨g, 0, none⟩) n cg) xs (mks 40)
  mf : Mm w w0.heap.size (.slice (some ⟨f, 0, none⟩) n cf) fs (mks 40)
  bel : Below w0.heap.size w0 w
  hg : w0.heap.size ≤ g
  hf : w0.heap.size ≤ f
  ne : g ≠ f
  lx : xs.length = n
  lf : fs.length = n

theorem Mm.lt {w : World} {B g n c : Nat} {xs ys : List Int} (h : Mm w B (.slice (some ⟨g, 0, none⟩) n c) xs ys) : g < w.heap.size := by
  obtain ⟨_, _, _, hh, _⟩ := h.blk (g := g) rfl
  exact heap_lt hh
theorem Kp.kept {w0 w w' : World} {n g cg f cf : Nat} {xs fs : List Int} {G : Nat → Prop} (h : Kp w0 n g cg f cf xs fs w) (k : Kept G w w') (hG : ∀ k, G k → w0.heap.size ≤ k ∧ k ≠ g ∧ k ≠ f) : Kp w0 n g cg f cf xs fs w' :=
  ⟨h.mm.kept k (fun b e hb => by simp [Value.ownBlock] at e; exact (hG b hb).2.1 e.symm), h.mf.kept k (fun b e hb => by simp [Value.ownBlock] at e; exact (hG b hb).2.2 e.symm), h.bel.trans (k.below (fun b hb => (hG b hb).1) h.bel.size), h.hg, h.hf, h.ne, h.lx, h.lf⟩

/-- the same within a round: what was ahead of the call, and the operation -/
structure Kb (w0 : World) (n g cg f cf h ch q : Nat) (xs fs bs : List Int) (d : OpD) (da : Option Addr) (dn dc : Nat) (w : World) : Prop where
  kp : Kp w0 n g cg f cf xs fs w
  mb : Mm w w0.heap.size (.slice (some ⟨h, 0, none⟩) n ch) bs (mks 40)
  lb : bs.length = n
  hh : w0.heap.size ≤ h
  ng : h ≠ g
  blk : OpBlk w q d da dn dc
  hq : w0.heap.size ≤ q
  qg : q ≠ g

namespace Kb
variable {w0 w w' : World} {n g cg f cf h ch q : Nat} {xs fs bs : List Int} {d : OpD} {da : Option Addr} {dn dc : Nat} {G : Nat → Prop}
theorem kept (H : Kb w0 n g cg f cf h ch q xs fs bs d da dn dc w) (k : Kept No w w') : Kb w0 n g cg f cf h ch q xs fs bs d da dn dc w' :=
  ⟨H.kp.kept k (fun b hb => hb.elim), H.mb.kept k (fun _ _ h => h), H.lb, H.hh, H.ng, H.blk.kept k (fun h => h), H.hq, H.qg⟩
theorem wrote {ys : List Int} (H : Kb w0 n g cg f cf h ch q xs fs bs d da dn dc w) (hm : Mm w' w0.heap.size (.slice (some ⟨g, 0, none⟩) n cg) ys (mks 40)) (hl : ys.length = n) (k : Kept (fun k => (Value.slice (some ⟨g, 0, none⟩) n cg).ownBlock = some k) w w') : Kb w0 n g cg f cf h ch q ys fs bs d da dn dc w' := by
  have e : ∀ k, (Value.slice (some ⟨g, 0, none⟩) n cg).ownBlock = some k → k = g := fun k e => by simp [Value.ownBlock] at e; exact e.symm
  refine ⟨⟨hm, H.kp.mf.kept k (fun b hb hg => ?_), H.kp.bel.trans (k.below (fun b hb => ?_) H.kp.bel.size), H.kp.hg, H.kp.hf, H.kp.ne, hl, H.kp.lf⟩, H.mb.kept k (fun b hb hg => ?_), H.lb, H.hh, H.ng, H.blk.kept k (fun hg => ?_), H.hq, H.qg⟩
  · have h1 := e b hg
    simp [Value.ownBlock] at hb
    exact H.kp.ne (by omega)
  · have h1 := e b hb
    have := H.kp.hg
    omega
  · have h1 := e b hg
    simp [Value.ownBlock] at hb
    exact H.ng (by omega)
  · exact H.qg (e q hg)
end Kb

theorem kb_start {w0 w w' : World} {n g cg f cf h ch : Nat} {xs fs : List Int} {d : OpD} {da : Option Addr} {dn dc : Nat} (H : Kp w0 n g cg f cf xs fs w) (hh : (w.alloc (.cells #[.int .i64 d.K, .int .i64 d.Fx, .int .i64 d.A, .int .i64 d.N, .int .i64 d.V, .slice da dn dc] 34)).heap.size ≤ h)
    (hm : Mm w' (w.alloc (.cells #[.int .i64 d.K, .int .i64 d.Fx, .int .i64 d.A, .int .i64 d.N, .int .i64 d.V, .slice da dn dc] 34)).heap.size (.slice (some ⟨h, 0, none⟩) n ch) xs (mks 40)) (k : Kept No (w.alloc (.cells #[.int .i64 d.K, .int .i64 d.Fx, .int .i64 d.A, .int .i64 d.N, .int .i64 d.V, .slice da dn dc] 34)) w') :
    Kb w0 n g cg f cf h ch w.heap.size xs fs xs d da dn dc w' := by
  have k0 : Kept No w w' := ((Kept.refl No w).alloc _).trans k (fun k h => h.elim)
  have hs : w.heap.size + 1 ≤ h := by simpa using hh
  have h1 := H.bel.size
  have h2 := H.mm.lt
  refine ⟨H.kept k0 (fun b hb => hb.elim), hm.low (by simp; omega), H.lx, by omega, by omega, (OpBlk.new w d da dn dc).kept k (fun h => h), h1, by omega⟩

set_option maxRecDepth 100000 in
set_option maxHeartbeats 4000000 in
theorem memKeeps_walk (F : Nat → Prop) (N Fx : Int) (a sa : Option Addr) (n c sm sc : Nat) (xs : List Int) (os : List OpD) (w : World) (hz : Zs w F a n c xs) (hs : Sc w sa sm sc os) :
    Calls Try.prog 4 #[.int .i64 N, .slice a n c, .int .i64 Fx, .slice sa sm sc] w fun ex w' => ex = .returned (.bool true) ∧ Below w.heap.size w w' := by
  have hsc := hs.cap
  have hsx := hs.max
  have HS : Hid (Sc w sa sm sc os) := hs
  clear hs
  cases hok : nwOk N xs.length with
  | false =>
    have hl := hz.len
    rw [hl] at hok
    have c6 := new_no N a n c w hok
    have c7 := works_any w
    clear hz hl hok
    go_enter Try.func4, Try.ntmps4
    go_wp2_with (first
      | (go_at_call 6; refine c6.mono ?_; rintro ex w1 ⟨rfl, hw⟩; obtain rfl := hw.symm)
      | (go_at_call 7; refine c7.mono ?_; rintro ex w1 ⟨rfl, kp⟩))
    go_ret
    exact ⟨rfl, kp.below0⟩
  | true =>
    have c6 := new_yes F N a n c xs w hz hok
    obtain ⟨hX, hX2⟩ := nwX_length hok
    obtain ⟨X, hXX⟩ : ∃ X, X = nwX N xs := ⟨_, rfl⟩
    rw [← hXX] at c6 hX hX2
    clear hok hXX hz
    obtain ⟨N, rfl⟩ : ∃ K : Nat, N = K := ⟨N.toNat, by omega⟩
    have hXn : X.length = N := by omega
    have HX : Hid (X.length = N) := hXn
    have hN : N ≤ 4096 := by omega
    clear hX hX2 hXn
    go_enter Try.func4, Try.ntmps4
    go_upto_region 5 with (first
      | (go_at_call 6; refine c6.mono ?_; rintro ex w1 ⟨v, rfl, own, kp⟩; obtain ⟨a1, c1, hv, hz1⟩ := Zs.of_row own; rw [HX.out] at hv hz1; obtain rfl := hv; have KP : Hid (Kept No w w1) := kp; have c11 := marked_mm _ a1 N c1 X w1 hz1 (by omega); clear own hz1 kp c6)
      | (go_at_call 11; refine c11.mono ?_; rintro ex w2 ⟨g, cg, rfl, hg, hm, kp2⟩; have KP2 : Hid (Kept No w w2 ∧ w.heap.size ≤ g) := ⟨KP.out.trans kp2 (fun k h => h.elim), Nat.le_trans KP.out.size hg⟩; have HM : Hid (Mm w2 w1.heap.size (.slice (some ⟨g, 0, none⟩) N cg) X (mks 40)) := hm; clear hm kp2 hg c11))
    have c11 := marked_mm _ (some ⟨g, 0, none⟩) N cg X w2 HM.out.zsg (by omega)
    go_wp2_with (go_at_call 11; refine c11.mono ?_; rintro ex w3 ⟨f, cf, rfl, hf, hm3, kp3⟩; have HK : Hid (Kp w N g cg f cf X X w3) := ⟨(HM.out.kept kp3 (fun _ _ h => h)).low KP.out.size, hm3.low KP2.out.1.size, (KP2.out.1.trans kp3 (fun k h => h.elim)).below0, KP2.out.2, Nat.le_trans KP2.out.1.size hf, (fun e => by have := HM.out.lt; omega), HX.out, HX.out⟩; clear hm3 kp3 hf c11)
    clear HM KP KP2
    go_loopw [12] (fun i wr => ∃ (j : Nat) (ys : List Int), j ≤ sm ∧ i = .int .i64 j ∧ Kp w N g cg f cf ys X wr ∧ ∀ k : Nat, (k : Int) < Fx → ys.getD k 0 = X.getD k 0) (fun i _ => sm - (intOf i).toNat)
    case atStart => exact ⟨0, X, by omega, rfl, HK.out, fun _ _ => rfl⟩
    case round =>
      obtain ⟨j, ys, hj, rfl, hk, hfix⟩ := hrel
      have HKP : Hid (Kp w N g cg f cf ys X wr) := hk
      have HFX : Hid (∀ k : Nat, (k : Int) < Fx → ys.getD k 0 = X.getD k 0) := hfix
      clear hk hfix HK
      by_cases hlt : j < sm
      · obtain ⟨d, b, o, da, dn, dc, hd, rfl, hat, hdz, hdn, _⟩ := HS.out.get HKP.out.bel hlt
        obtain ⟨q0, q1, q2, q3, q4, q5⟩ := hat
        obtain ⟨K, Fq, A, Nq, V, ds⟩ := d
        simp only at q0 q1 q2 q3 q4 q5 hdz
        have HDZ : Hid (Zs wr (fun k => k < w.heap.size) da dn dc ds) := hdz
        clear hd hdz
        have c11 := marked_mm (fun k => k = g) (some ⟨g, 0, none⟩) N cg ys (wr.alloc (.cells #[.int .i64 K, .int .i64 Fq, .int .i64 A, .int .i64 Nq, .int .i64 V, .slice da dn dc] 34)) (HKP.out.mm.zsg.kept ((Kept.refl No wr).alloc _) (fun _ _ h => h)) (by omega)
        obtain ⟨D, hD⟩ : ∃ D, D = if K = 4 then ds else [V] := ⟨_, rfl⟩
        obtain ⟨nd, hnd⟩ : ∃ nd, nd = D.length := ⟨_, rfl⟩
        have HD : Hid (D = if K = 4 then ds else [V]) := hD
        have HND : Hid (nd = D.length) := hnd
        clear hD hnd
        go_upto_if 54 with (go_at_call 11; refine c11.mono ?_; rintro ex wx ⟨h, ch, rfl, hh, hmh, kph⟩; have HB : Hid (Kb w N g cg f cf h ch wr.heap.size ys X ys ⟨K, Fq, A, Nq, V, ds⟩ da dn dc wx) := kb_start (d := ⟨K, Fq, A, Nq, V, ds⟩) HKP.out hh hmh kph; have HDX : Hid (Zs wx (fun k => k < w.heap.size) da dn dc ds) := HDZ.out.kept (((Kept.refl No wr).alloc _).trans kph (fun k h => h.elim)) (fun _ _ h => h); clear hh hmh kph c11; obtain ⟨e0, e1, e2, e3, e4, e5⟩ := HB.out.blk.cells; simp only at e0 e1 e2 e3 e4 e5)
        go_cut [15] (fun dv wy => ∃ a' c', dv = .slice a' nd c' ∧ Zs wy (fun k => k ≠ g) a' nd c' D ∧ Kb w N g cg f cf h ch wr.heap.size ys X ys ⟨K, Fq, A, Nq, V, ds⟩ da dn dc wy)
        case first =>
          clear q0 q1 q2 q3 q4 q5
          by_cases hK : K = 4
          · have hdl : nd = dn := by rw [HND.out, HD.out, if_pos hK]; exact HDX.out.len
            have HDL : Hid (nd = dn) := hdl
            clear hdl
            have HKK : Hid (D = ds) := by show D = ds; rw [HD.out, if_pos hK]
            have hK1 : (K != 4) = false := by simp [hK]
            have hK2 : (K == 4) = true := by simp [hK]
            clear hK
            go_wp2
            go_meet
            case rel => exact ⟨da, dc, by rw [HDL.out], by rw [HDL.out, HKK.out]; exact HDX.out.mono (fun k hk e => by have := HKP.out.hg; omega), HB.out⟩
          · have HDL : Hid (nd = 1 ∧ D = [V]) := by
              have : D = [V] := by rw [HD.out, if_neg hK]
              exact ⟨by rw [HND.out, this]; rfl, this⟩
            have hK1 : (K != 4) = true := by simpa using hK
            have hK2 : (K == 4) = false := by simpa using hK
            clear hK
            go_wp2
            go_meet
            case rel => exact ⟨_, 1, by rw [HDL.out.1], by rw [HDL.out.1, HDL.out.2]; exact (zs_new wx [V] (by simp) 2).mono (fun k hk e => by have := HB.out.kp.mm.lt; omega), HB.out.kept ((Kept.refl No wx).alloc _)⟩
        case rest =>
          obtain ⟨a', c', rfl, hz', hb'⟩ := hcut
          have HZD : Hid (Zs wc (fun k => k ≠ g) a' nd c' D) := hz'
          have HBC : Hid (Kb w N g cg f cf h ch wr.heap.size ys X ys ⟨K, Fq, A, Nq, V, ds⟩ da dn dc wc) := hb'
          clear hz' hb' e0 e1 e2 e3 e4 e5 q0 q1 q2 q3 q4 q5 HB HDX HDZ
          obtain ⟨e0, e1, e2, e3, e4, e5⟩ := HBC.out.blk.cells
          simp only at e0 e1 e2 e3 e4 e5
          go_upto_if 60 with fail
          go_cut [16] (fun dv wy => dv = .bool (wb N Fx A nd) ∧ Zs wy (fun k => k ≠ g) a' nd c' D ∧ Kb w N g cg f cf h ch wr.heap.size (wrX ys Fx A D) X ys ⟨K, Fq, A, Nq, V, ds⟩ da dn dc wy)
          case first =>
            by_cases hK : K = 4
            · have c12 := write_any _ w.heap.size Fx A (some ⟨g, 0, none⟩) a' N cg nd c' ys (mks 40) D wc HBC.out.kp.mm HBC.out.kp.lx HZD.out
              have hK1 : (K != 4) = false := by simp [hK]
              have hK2 : (K == 4) = true := by simp [hK]
              clear hK
              go_wp2_with (go_at_call 12; refine c12.mono ?_; rintro ex wv ⟨rfl, hm, hkp⟩; have HV : Hid (Zs wv (fun k => k ≠ g) a' nd c' D ∧ Kb w N g cg f cf h ch wr.heap.size (wrX ys Fx A D) X ys ⟨K, Fq, A, Nq, V, ds⟩ da dn dc wv) := ⟨HZD.out.kept hkp (fun k hk e => by simp [Value.ownBlock] at e; exact hk e.symm), HBC.out.wrote hm (by rw [wrX_length]; exact HBC.out.kp.lx) hkp⟩; clear hm hkp c12)
              go_meet
              case rel => exact ⟨rfl, HV.out.1, HV.out.2⟩
            · have c13 := store_any w.heap.size Fx A V (some ⟨g, 0, none⟩) N cg ys (mks 40) wc HBC.out.kp.mm HBC.out.kp.lx
              have hDV : D = [V] := by rw [HD.out, if_neg hK]
              have h1 : nd = 1 := by rw [HND.out, hDV]; rfl
              have HDV : Hid (D = [V] ∧ nd = 1) := ⟨hDV, h1⟩
              clear hDV h1
              have hK1 : (K != 4) = true := by simpa using hK
              have hK2 : (K == 4) = false := by simpa using hK
              clear hK
              go_wp2_with (go_at_call 13; refine c13.mono ?_; rintro ex wv ⟨rfl, hm, hkp⟩; have HV : Hid (Zs wv (fun k => k ≠ g) a' nd c' D ∧ Kb w N g cg f cf h ch wr.heap.size (wrX ys Fx A D) X ys ⟨K, Fq, A, Nq, V, ds⟩ da dn dc wv) := ⟨HZD.out.kept hkp (fun k hk e => by simp [Value.ownBlock] at e; exact hk e.symm), HBC.out.wrote (by rw [HDV.out.1]; exact hm) (by rw [wrX_length]; exact HBC.out.kp.lx) hkp⟩; clear hm hkp c13)
              go_meet
              case rel => exact ⟨by rw [HDV.out.2]; rfl, HV.out.1, HV.out.2⟩
          case rest =>
            obtain ⟨rfl, hz', hb'⟩ := hcut
            clear e0 e1 e2 e3 e4 e5 HZD HBC
            have HZD : Hid (Zs wc (fun k => k ≠ g) a' nd c' D) := hz'
            have HBC : Hid (Kb w N g cg f cf h ch wr.heap.size (wrX ys Fx A D) X ys ⟨K, Fq, A, Nq, V, ds⟩ da dn dc wc) := hb'
            have hzc := hz'.cap
            have hzm := hz'.max
            clear hz' hb'
            obtain ⟨e0, e1, e2, e3, e4, e5⟩ := HBC.out.blk.cells
            simp only at e0 e1 e2 e3 e4 e5
            have c9 := writable_any N Fx A nd wc (by omega)
            obtain ⟨dB, hdB⟩ : ∃ dB, dB = wb N Fx A nd := ⟨_, rfl⟩
            rw [← hdB] at c9 ⊢
            have HDB : Hid (dB = wb N Fx A nd) := hdB
            clear hdB
            obtain ⟨wo, hwo⟩ : ∃ wo, wo = wr := ⟨_, rfl⟩
            subst hwo
            go_wp2_with (go_at_call 9; refine c9.mono ?_; rintro ex wv ⟨rfl, hw⟩; obtain rfl := hw.symm)
            clear c9
            go_loopw [17] (fun i wk => ∃ k : Nat, k ≤ N ∧ i = .int .i64 k ∧ ∃ q, wk = wc.drewN q) (fun i _ => N - (intOf i).toNat)
            case atStart => exact ⟨0, by omega, rfl, 0, rfl⟩
            case round =>
              obtain ⟨k, hk, rfl, q, rfl⟩ := hrel
              by_cases hkl : k < N
              · have cm := HBC.out.kp.mm.at_ (g := g) rfl (i := k) (by rw [HBC.out.kp.lx]; exact hkl)
                have cb := HBC.out.mb.at_ (g := h) rfl (i := k) (by rw [HBC.out.lb]; exact hkl)
                have cf' := HBC.out.kp.mf.at_ (g := f) rfl (i := k) (by rw [HBC.out.kp.lf]; exact hkl)
                rw [wrX_get, show ys.length = N from HBC.out.lb, ← HND.out, ← HDB.out] at cm
                obtain ⟨y, hy⟩ : ∃ y, y = ys.getD k 0 := ⟨_, rfl⟩
                rw [← hy] at cm cb
                have hfx : ((k : Int) < Fx) → X.getD k 0 = y := fun h => by rw [hy]; exact (HFX.out k h).symm
                clear hy
                have HF : Hid (((k : Int) < Fx) → X.getD k 0 = y) := hfx
                clear hfx
                by_cases hin : dB = true ∧ A ≤ k ∧ (k : Int) < A + nd
                · rw [if_pos hin] at cm
                  obtain ⟨hdT, hA1, hA2⟩ := hin
                  subst hdT
                  have hwb := HDB.out.symm
                  unfold wb at hwb
                  rw [Bool.and_eq_true, wi_iff, decide_eq_true_eq] at hwb
                  obtain ⟨t, ht⟩ : ∃ t : Nat, (k : Int) - A = t := ⟨((k : Int) - A).toNat, by omega⟩
                  have e : wrap64 ((k : Int) - A) = (t : Int) := by unfold wrap64; omega
                  have ht2 : t < nd := by omega
                  have hkf : ¬ ((k : Int) < Fx) := by omega
                  rw [show k - A.toNat = t by omega] at cm
                  obtain ⟨b2, o2, rfl, _, hc2⟩ := HZD.out.at' t ht2
                  obtain ⟨x, hx⟩ : ∃ x, x = D.getD t 0 := ⟨_, rfl⟩
                  rw [← hx] at cm hc2
                  have cm2 : wc.cell? ⟨g, k, none⟩ = some (.int .i64 x) := cm
                  have cd2 : wc.cell? ⟨b2, o2 + t, none⟩ = some (.int .i64 x) := hc2
                  clear hx hwb ht hA1 hA2 cm hc2 cb cf'
                  have hkI : (k : Int) < (N : Int) := by omega
                  have htI : (t : Int) < (nd : Int) := by omega
                  have hkfd : decide ((k : Int) < Fx) = false := decide_eq_false hkf
                  go_wp2_with fail
                  go_quiet (fail)
                  go_wp2
                  go_roundw
                  case rel => exact ⟨k + 1, by omega, by go_num, _, rfl⟩
                  case measure => simp [intOf]; omega
                · rw [if_neg hin] at cm
                  have cm2 : wc.cell? ⟨g, k, none⟩ = some (.int .i64 y) := cm
                  have cb2 : wc.cell? ⟨h, k, none⟩ = some (.int .i64 y) := cb
                  clear cm cb
                  have hkI : (k : Int) < (N : Int) := by omega
                  cases hB : dB with
                  | false =>
                    clear hin
                    subst hB
                    by_cases hkf : (k : Int) < Fx
                    · have cf2 : wc.cell? ⟨f, k, none⟩ = some (.int .i64 y) := by rw [cf', HF.out hkf]; rfl
                      clear cf'
                      go_wp2_with fail
                      go_quiet (fail)
                      go_wp2
                      go_roundw
                      case rel => exact ⟨k + 1, by omega, by go_num, _, rfl⟩
                      case measure => simp [intOf]; omega
                    · clear cf'
                      have hkfd : decide ((k : Int) < Fx) = false := decide_eq_false hkf
                      go_wp2_with fail
                      go_quiet (fail)
                      go_wp2
                      go_roundw
                      case rel => exact ⟨k + 1, by omega, by go_num, _, rfl⟩
                      case measure => simp [intOf]; omega
                  | true =>
                    subst hB
                    have hwb := HDB.out.symm
                    unfold wb at hwb
                    rw [Bool.and_eq_true, wi_iff, decide_eq_true_eq] at hwb
                    obtain ⟨u, hu⟩ : ∃ u : Int, u = (k : Int) - A := ⟨_, rfl⟩
                    have e : wrap64 ((k : Int) - A) = u := by rw [hu]; unfold wrap64; omega
                    have ho : u < 0 ∨ (0 ≤ u ∧ (nd : Int) ≤ u) := by
                      by_cases h0 : u < 0
                      · exact .inl h0
                      · refine .inr ⟨by omega, ?_⟩
                        apply Decidable.byContradiction
                        intro hn
                        exact hin ⟨rfl, by omega, by omega⟩
                    clear hin hwb hu
                    rcases ho with ho | ⟨ho1, ho2⟩
                    · by_cases hkf : (k : Int) < Fx
                      · have cf2 : wc.cell? ⟨f, k, none⟩ = some (.int .i64 y) := by rw [cf', HF.out hkf]; rfl
                        clear cf'
                        go_wp2_with fail
                        go_quiet (fail)
                        go_wp2
                        go_roundw
                        case rel => exact ⟨k + 1, by omega, by go_num, _, rfl⟩
                        case measure => simp [intOf]; omega
                      · clear cf'
                        have hkfd : decide ((k : Int) < Fx) = false := decide_eq_false hkf
                        go_wp2_with fail
                        go_quiet (fail)
                        go_wp2
                        go_roundw
                        case rel => exact ⟨k + 1, by omega, by go_num, _, rfl⟩
                        case measure => simp [intOf]; omega
                    · have ho3 : decide (u < (nd : Int)) = false := decide_eq_false (by omega)
                      by_cases hkf : (k : Int) < Fx
                      · have cf2 : wc.cell? ⟨f, k, none⟩ = some (.int .i64 y) := by rw [cf', HF.out hkf]; rfl
                        clear cf'
                        go_wp2_with fail
                        go_quiet (fail)
                        go_wp2
                        go_roundw
                        case rel => exact ⟨k + 1, by omega, by go_num, _, rfl⟩
                        case measure => simp [intOf]; omega
                      · clear cf'
                        have hkfd : decide ((k : Int) < Fx) = false := decide_eq_false hkf
                        go_wp2_with fail
                        go_quiet (fail)
                        go_wp2
                        go_roundw
                        case rel => exact ⟨k + 1, by omega, by go_num, _, rfl⟩
                        case measure => simp [intOf]; omega
              · have hkN : k = N := by omega
                subst hkN
                have HBQ : Hid (Kb w k g cg f cf h ch wo.heap.size (wrX ys Fx A D) X ys ⟨K, Fq, A, Nq, V, ds⟩ da dn dc (wc.drewN q)) := HBC.out.kept ((Kept.refl No wc).drewN q)
                have c14 := left_any _ w.heap.size g k cg (some ⟨g, 0, none⟩) cg (wrX ys Fx A D) (wrX ys Fx A D) (wc.drewN q) HBQ.out.kp.mm.zsg HBQ.out.kp.mm HBQ.out.kp.lx
                rw [decide_eq_true rfl] at c14
                go_wp2_with (go_at_call 14; refine c14.mono ?_; rintro ex wv ⟨rfl, q2, hwv⟩; have HWV : Hid (wv = (wc.drewN q).drewN q2) := hwv; clear hwv)
                go_roundw
                case rel =>
                  refine ⟨j + 1, wrX ys Fx A D, by omega, by go_num, ?_, ?_⟩
                  · rw [HWV.out]
                    exact (HBQ.out.kept ((Kept.refl No _).drewN q2)).kp
                  · intro i hi
                    rw [wrX_get, if_neg ?_, HFX.out i hi]
                    rintro ⟨h1, h2, h3⟩
                    unfold wb at h1
                    rw [Bool.and_eq_true, wi_iff, decide_eq_true_eq] at h1
                    omega
                case measure => simp [intOf]; omega
      · have hjm : j = sm := by omega
        subst hjm
        have c7 := works_any wr
        go_wp2_with (go_at_call 7; refine c7.mono ?_; rintro ex wv ⟨rfl, kp7⟩)
        go_ret
        exact ⟨rfl, HKP.out.bel.trans (kp7.below (fun k h => h.elim) HKP.out.bel.size)⟩

end Go.Proofs.Ytgapljgnedbkiaa
