/-
  'MemExact'.
-/
import Derived.Test.YtgapljgnedbkiaaUntold
namespace Go.Proofs.Ytgapljgnedbkiaa
open Go.RowKit
set_option linter.unusedVariables false

theorem Sc.below {W w : World} {a : Option Addr} {m c : Nat} {os : List OpD} (h : Sc W a m c os) (hb : Below W.heap.size W w) : Sc w a m c os := by
  refine ⟨h.len, h.cap, h.max, fun i d hd => ?_⟩
  obtain ⟨b, o, ha, da, dn, dc, h1, h2, r⟩ := h.at' i d hd
  exact ⟨b, o, ha, da, dn, dc, h1.below hb, (h2.below hb).mono (fun k hk => Nat.lt_of_lt_of_le hk hb.size), r⟩

/-- the memory and the document's -/
structure Ex (w0 : World) (g n cg : Nat) (Gx : Nat → Prop) (xa : Option Addr) (xc : Nat) (ms : List Int) (w : World) : Prop where
  mm : Mm w w0.heap.size (.slice (some ⟨g, 0, none⟩) n cg) ms (mks 40)
  lm : ms.length = n
  hn : n ≤ 4096
  zx : Zs w Gx xa n xc ms
  gx : ∀ k, Gx k → k ≠ g ∧ k < w.heap.size
  ghi : w0.heap.size ≤ g
  bel : Below w0.heap.size w0 w

namespace Ex
variable {w0 w w' : World} {g n cg : Nat} {Gx : Nat → Prop} {xa : Option Addr} {xc : Nat} {ms : List Int}
theorem kept (h : Ex w0 g n cg Gx xa xc ms w) (k : Kept No w w') : Ex w0 g n cg Gx xa xc ms w' :=
  ⟨h.mm.kept k (fun _ _ h => h), h.lm, h.hn, h.zx.kept k (fun _ _ h => h), fun b hb => ⟨(h.gx b hb).1, Nat.lt_of_lt_of_le (h.gx b hb).2 k.size⟩, h.ghi, h.bel.trans (k.below (fun _ h => h.elim) h.bel.size)⟩
theorem step {ys : List Int} {ya : Option Addr} {yc : Nat} (h : Ex w0 g n cg Gx xa xc ms w) (d : StDid w w0.heap.size g n cg Gx ys ya yc w') : ∃ Gy, Ex w0 g n cg Gy ya yc ys w' := by
  have hgl := h.mm.lt
  refine ⟨_, d.mm, d.ly, h.hn, d.zy.bound, ?_, h.ghi, h.bel.trans (d.kept.below (fun b e => by have := h.ghi; omega) h.bel.size)⟩
  rintro k ⟨hk | hk, hlt⟩
  · exact ⟨(h.gx k hk).1, hlt⟩
  · exact ⟨by omega, hlt⟩
end Ex

set_option maxRecDepth 100000 in
set_option maxHeartbeats 6000000 in
theorem memExact_walk (F : Nat → Prop) (N : Int) (a sa : Option Addr) (n c sm sc : Nat) (xs : List Int) (os : List OpD) (w : World) (hz : Zs w F a n c xs) (hs : Sc w sa sm sc os) (hn : n ≤ 17592186043904) :
    Calls Try.prog 5 #[.int .i64 N, .slice a n c, .slice sa sm sc] w fun ex w' => ex = .returned (.bool true) ∧ Below w.heap.size w w' := by
  have hsc := hs.cap
  have hsx := hs.max
  have HS : Hid (Sc w sa sm sc os) := hs
  have HZ : Hid (Zs w F a n c xs ∧ xs.length = n) := ⟨hz, hz.len⟩
  have c11 := marked_mm F a n c xs w hz hn
  have hM := nwR_length N xs
  obtain ⟨X, hX⟩ : ∃ X, X = nwR N xs := ⟨_, rfl⟩
  obtain ⟨bN, hbN⟩ : ∃ b, b = nwOk N xs.length := ⟨_, rfl⟩
  rw [← hX] at hM
  obtain ⟨M, hMl⟩ : ∃ M, M = X.length := ⟨_, rfl⟩
  rw [← hMl] at hM
  have HX : Hid (X = nwR N xs ∧ bN = nwOk N xs.length ∧ X.length = M) := ⟨hX, hbN, hMl.symm⟩
  clear hs hz hX hbN hMl
  go_enter Try.func5, Try.ntmps5
  go_upto_region 4 with (first
    | (go_at_call 11; refine c11.mono ?_; rintro ex w1 ⟨f, cf, rfl, hf, hm, k1⟩; have H1 : Hid (Mm w1 w.heap.size (.slice (some ⟨f, 0, none⟩) n cf) xs (mks 40) ∧ w.heap.size ≤ f ∧ Kept No w w1) := ⟨hm, hf, k1⟩; have c6 := new_any _ N (some ⟨f, 0, none⟩) n cf xs w1 hm.zsg; rw [← HX.out.1, ← HX.out.2.1, HX.out.2.2] at c6; clear hf hm k1 c11)
    | (go_at_call 6; refine c6.mono ?_; rintro ex w2 ⟨v2, rfl, o2, k2⟩; obtain ⟨aa, ac, rfl⟩ := owns_shp o2; have O2 : Hid (w2.ownsRow w1.heap.size 2 1 (.slice aa M ac) M (X.map iv) ∧ Kept No w1 w2) := ⟨o2, k2⟩; have c15 := refNew_any F N a n c xs w2 ((HZ.out.1.kept H1.out.2.2 (fun _ _ h => h)).kept k2 (fun _ _ h => h)); rw [← HX.out.1, ← HX.out.2.1, HX.out.2.2] at c15; clear o2 k2 c6)
    | (go_at_call 15; refine c15.mono ?_; rintro ex w3 ⟨v3, rfl, o3, k3⟩; obtain ⟨xa, xc, rfl⟩ := owns_shp o3; have O3 : Hid (w3.ownsRow w2.heap.size 2 1 (.slice xa M xc) M (X.map iv) ∧ w3.ownsRow w1.heap.size 2 1 (.slice aa M ac) M (X.map iv) ∧ Kept No w2 w3) := ⟨o3, k3.owns O2.out.1 (fun _ _ h => h), k3⟩; clear o3 k3 c15))
  have c16 := same_any _ _ aa xa M M ac xc X X w3 (Zs.row O3.out.2.1 HX.out.2.2) (Zs.row O3.out.1 HX.out.2.2)
  rw [decide_eq_true rfl] at c16
  go_wp2_with (first
    | (go_at_call 16; refine c16.mono ?_; rintro ex w4 ⟨rfl, q4, hw4⟩; have K4 : Hid (Kept No w1 w4) := (by rw [hw4]; exact (O2.out.2.trans O3.out.2.2 (fun k h => h.elim)).drewN q4); have K34 : Hid (Kept No w3 w4) := (by rw [hw4]; exact (Kept.refl No w3).drewN q4); have c14 := left_any _ w.heap.size f n cf a c xs xs w4 ((HZ.out.1.kept H1.out.2.2 (fun _ _ h => h)).kept K4.out (fun _ _ h => h)) (H1.out.1.kept K4.out (fun _ _ h => h)) HZ.out.2; rw [decide_eq_true rfl] at c14; clear hw4 c16)
    | (go_at_call 14; refine c14.mono ?_; rintro ex w5 ⟨rfl, q5, hw5⟩; have K5 : Hid (Kept No w4 w5) := (by rw [hw5]; exact (Kept.refl No w4).drewN q5); clear hw5 c14))
  have H5 : Hid (Mm w5 w.heap.size (.slice (some ⟨f, 0, none⟩) n cf) xs (mks 40) ∧ w5.ownsRow w1.heap.size 2 1 (.slice aa M ac) M (X.map iv) ∧ w5.ownsRow w2.heap.size 2 1 (.slice xa M xc) M (X.map iv) ∧ Kept No w w5 ∧ f < w1.heap.size ∧ w1.heap.size ≤ w2.heap.size ∧ w.heap.size ≤ f) :=
    ⟨(H1.out.1.kept K4.out (fun _ _ h => h)).kept K5.out (fun _ _ h => h), K5.out.owns (K34.out.owns O3.out.2.1 (fun _ _ h => h)) (fun _ _ h => h), K5.out.owns (K34.out.owns O3.out.1 (fun _ _ h => h)) (fun _ _ h => h), (H1.out.2.2.trans K4.out (fun k h => h.elim)).trans K5.out (fun k h => h.elim), H1.out.1.lt, O2.out.2.size, H1.out.2.1⟩
  clear K4 K34 K5 O2 O3 H1
  go_loopw [12] (fun i wr => ∃ (j : Nat) (zs : List Int), j ≤ n ∧ i = .int .i64 j ∧ zs.length = n ∧ Mm wr w.heap.size (.slice (some ⟨f, 0, none⟩) n cf) zs (mks 40) ∧ Kept (fun k => k = f) w5 wr) (fun i _ => n - (intOf i).toNat)
  case atStart => exact ⟨0, xs, by omega, rfl, HZ.out.2, H5.out.1, Kept.refl _ _⟩
  case round =>
    obtain ⟨j, zs, hj, rfl, hzl, hmz, hkz⟩ := hrel
    have HR : Hid (zs.length = n ∧ Mm wr w.heap.size (.slice (some ⟨f, 0, none⟩) n cf) zs (mks 40) ∧ Kept (fun k => k = f) w5 wr) := ⟨hzl, hmz, hkz⟩
    by_cases hlt : j < n
    · have hc := hmz.at_ (g := f) rfl (i := j) (by omega)
      have hf := hmz.fz (g := f) rfl j
      have hst := hmz.set_ (g := f) rfl (i := j) (by omega) 80
      have HS2 : Hid (Mm (wr.setCell ⟨f, j, none⟩ (.int .i64 80)) w.heap.size (.slice (some ⟨f, 0, none⟩) n cf) (zs.set j 80) (mks 40)) := hst
      obtain ⟨z, hz⟩ : ∃ z, z = zs.getD j 0 := ⟨_, rfl⟩
      rw [← hz] at hc
      unfold iv at hc
      clear hmz hkz hst hz hzl
      go_wp2
      go_roundw
      case rel => exact ⟨j + 1, zs.set j 80, by omega, by go_num, by rw [List.length_set]; exact HR.out.1, HS2.out, HR.out.2.2.setCell (p := ⟨f, j, none⟩) (.inl rfl) _⟩
      case measure => simp [intOf]; omega
    · clear hzl hmz hkz
      obtain ⟨wo, hwo⟩ : ∃ wo, wo = wr := ⟨_, rfl⟩
      subst hwo
      have H6 : Hid (wo.ownsRow w1.heap.size 2 1 (.slice aa M ac) M (X.map iv) ∧ wo.ownsRow w2.heap.size 2 1 (.slice xa M xc) M (X.map iv) ∧ Below w.heap.size w wo) := by
        have h5 := H5.out
        refine ⟨HR.out.2.2.owns h5.2.1 (fun k e e2 => by have := (h5.2.1.lt k e).1; omega), HR.out.2.2.owns h5.2.2.1 (fun k e e2 => by have := (h5.2.2.1.lt k e).1; omega), h5.2.2.2.1.below0.trans (HR.out.2.2.below (fun k e => by omega) h5.2.2.2.1.size)⟩
      have c11 := marked_mm _ aa M ac X wo (Zs.row H6.out.1 HX.out.2.2) (by omega)
      have hss := H5.out.2.2.2.2
      have HSS : Hid (f < w1.heap.size ∧ w1.heap.size ≤ w2.heap.size ∧ w.heap.size ≤ f) := hss
      clear hss H5 HR
      go_wp2_with (first
        | (go_at_call 11; refine c11.mono ?_; rintro ex w7 ⟨g, cg, rfl, hg, hm7, k7⟩; have H7 : Hid (Ex w g M cg (fun k => (Value.slice xa M xc).ownBlock = some k) xa xc X w7 ∧ w7.ownsRow w1.heap.size 2 1 (.slice aa M ac) M (X.map iv)) := ⟨⟨hm7.low H6.out.2.2.size, HX.out.2.2, hM, (Zs.row H6.out.2.1 HX.out.2.2).kept k7 (fun _ _ h => h), (fun k e => by have h1 := (H6.out.2.1.lt k e).2; have h2 := k7.size; exact ⟨by omega, by omega⟩), Nat.le_trans H6.out.2.2.size hg, H6.out.2.2.trans (k7.below (fun _ h => h.elim) H6.out.2.2.size)⟩, k7.owns H6.out.1 (fun _ _ h => h)⟩; have c16 := same_any _ _ aa xa M M ac xc X X w7 (Zs.row H7.out.2 HX.out.2.2) H7.out.1.zx; rw [decide_eq_true rfl] at c16; clear hg hm7 k7 c11)
        | (go_at_call 16; refine c16.mono ?_; rintro ex w8 ⟨rfl, q8, hw8⟩; have H8 : Hid (Ex w g M cg (fun k => (Value.slice xa M xc).ownBlock = some k) xa xc X w8) := (by rw [hw8]; exact H7.out.1.kept ((Kept.refl No w7).drewN q8)); clear hw8 c16))
      clear H6 H7 HSS
      go_loopw [10, 14, 15] (fun x fn i wk => ∃ (q : Nat) (Gx : Nat → Prop) (xa : Option Addr) (xc : Nat) (ms : List Int), q ≤ sm ∧ i = .int .i64 q ∧ fn = .bool true ∧ x = .slice xa M xc ∧ Ex w g M cg Gx xa xc ms wk) (fun _ _ i _ => sm - (intOf i).toNat)
      case atStart => exact ⟨0, _, xa, xc, X, by omega, rfl, rfl, rfl, H8.out⟩
      case round =>
        clear H8
        obtain ⟨q, Gx, xa, xc, ms, hq, rfl, rfl, rfl, hex⟩ := hrel
        have HE : Hid (Ex w g M cg Gx xa xc ms wr) := hex
        clear hex
        by_cases hql : q < sm
        · obtain ⟨d, b, o, da, dn, dc, hd, rfl, hat, hdz, hdn, _, _, hdN, _, _⟩ := HS.out.get HE.out.bel hql
          obtain ⟨q0, q1, q2, q3, q4, q5⟩ := hat
          obtain ⟨K, Fq, A, Nq, V, ds⟩ := d
          simp only at q0 q1 q2 q3 q4 q5 hdz hdN
          have c17 := step_any wr w.heap.size g M cg ms Gx xa xc _ da dn dc K Fq A Nq V ds ⟨HE.out.mm, HE.out.lm, HE.out.hn, HE.out.zx, fun k hk => (HE.out.gx k hk).1, hdz, (fun k hk => by have := HE.out.ghi; omega), hdn⟩ hdN.2
          obtain ⟨Y, hY⟩ : ∃ Y, Y = stX ms ⟨K, Fq, A, Nq, V, ds⟩ := ⟨_, rfl⟩
          rw [← hY] at c17
          clear hd hdz hdN hY
          go_wp2_with (first
            | (go_at_call 17; refine c17.mono ?_; rintro ex w2 ⟨ya, yc, rfl, hd2⟩; obtain ⟨Gy, he2⟩ := HE.out.step hd2; have HE2 : Hid (Ex w g M cg Gy ya yc Y w2) := he2; have c14 := left_any _ w.heap.size g M cg ya yc Y Y w2 he2.zx he2.mm he2.lm; rw [decide_eq_true rfl] at c14; clear hd2 he2 c17)
            | (go_at_call 14; refine c14.mono ?_; rintro ex w3 ⟨rfl, q3, hw3⟩; have HE3 : Hid (Ex w g M cg Gy ya yc Y w3) := (by rw [hw3]; exact HE2.out.kept ((Kept.refl No w2).drewN q3)); clear hw3 c14))
          go_roundw
          case rel => exact ⟨q + 1, Gy, ya, yc, Y, by omega, by go_num, rfl, rfl, HE3.out⟩
          case measure => simp [intOf]; omega
        · have hqm : q = sm := by omega
          subst hqm
          have c18 := untold_any F N a sa n c q sc xs os wr (HZ.out.1.below HE.out.bel) (HS.out.below HE.out.bel)
          go_wp2_with (first
            | (go_at_call 18; refine c18.mono ?_; rintro ex w2 ⟨rfl, k2⟩; have HB2 : Hid (Below w.heap.size w w2) := HE.out.bel.trans (k2.below (fun _ h => h.elim) HE.out.bel.size); have c19 := placed_any F N a n c xs w2 (HZ.out.1.below HB2.out) hn; clear k2 c18)
            | (go_at_call 19; refine c19.mono ?_; rintro ex w3 ⟨rfl, k3⟩; have HB3 : Hid (Below w.heap.size w w3) := HB2.out.trans (k3.below (fun _ h => h.elim) HB2.out.size); clear k3 c19))
          go_ret
          exact ⟨rfl, HB3.out⟩

end Go.Proofs.Ytgapljgnedbkiaa
