/-
  sameChannel, slices.EqualFunc of channels, of a list and itself.
-/
import Derived.Test.YtdohjhhflfnncaaDoorFEq
import Derived.Test.YtdohjhhflfnncaaDoorCPrd
namespace Go.Proofs.YtdohjhhflfnncaaDoor
open Go.RowKit
set_option linter.unusedVariables false
set_option maxRecDepth 100000

set_option maxHeartbeats 4000000 in
theorem channel_yes {F : Nat → Prop} {k f p q : Int} {a : Option Addr} {n c : Nat} {xs : List Int} (w : World) (h : Ls 1 elI w F a n c xs) :
    Calls Tryd.prog 27 #[.agg #[.int .i64 k, .int .i64 f, .slice a n c, .int .i64 p, .int .i64 q], .agg #[.int .i64 k, .int .i64 f, .slice a n c, .int .i64 p, .int .i64 q]] w fun e w' => e = .returned (.bool true) ∧ Kept No w w' := by
  have k1 : Kept No w ((w.alloc (.cells #[.int .i64 k, .int .i64 f, .slice a n c, .int .i64 p, .int .i64 q] 50)).alloc (.cells #[.int .i64 k, .int .i64 f, .slice a n c, .int .i64 p, .int .i64 q] 50)) := ((Kept.refl No w).alloc _).alloc _
  have b0 : ((w.alloc (.cells #[.int .i64 k, .int .i64 f, .slice a n c, .int .i64 p, .int .i64 q] 50)).alloc (.cells #[.int .i64 k, .int .i64 f, .slice a n c, .int .i64 p, .int .i64 q] 50)).heap[w.heap.size]? = some (.cells #[.int .i64 k, .int .i64 f, .slice a n c, .int .i64 p, .int .i64 q] 50) := ((Kept.refl No _).alloc _).at' (alloc_new w _) (fun h => h)
  have b1 : ((w.alloc (.cells #[.int .i64 k, .int .i64 f, .slice a n c, .int .i64 p, .int .i64 q] 50)).alloc (.cells #[.int .i64 k, .int .i64 f, .slice a n c, .int .i64 p, .int .i64 q] 50)).heap[w.heap.size + 1]? = some (.cells #[.int .i64 k, .int .i64 f, .slice a n c, .int .i64 p, .int .i64 q] 50) := by
    have := alloc_new (w.alloc (.cells #[.int .i64 k, .int .i64 f, .slice a n c, .int .i64 p, .int .i64 q] 50)) (.cells #[.int .i64 k, .int .i64 f, .slice a n c, .int .i64 p, .int .i64 q] 50)
    rw [World.size_alloc] at this
    exact this
  have cE := eq_int _ (h.kept k1 (fun _ _ h => h) (elI_kept k1 (fun _ _ h => h)))
  have HB : Hid (((w.alloc (.cells #[.int .i64 k, .int .i64 f, .slice a n c, .int .i64 p, .int .i64 q] 50)).alloc (.cells #[.int .i64 k, .int .i64 f, .slice a n c, .int .i64 p, .int .i64 q] 50)).heap[w.heap.size]? = some (.cells #[.int .i64 k, .int .i64 f, .slice a n c, .int .i64 p, .int .i64 q] 50) ∧ ((w.alloc (.cells #[.int .i64 k, .int .i64 f, .slice a n c, .int .i64 p, .int .i64 q] 50)).alloc (.cells #[.int .i64 k, .int .i64 f, .slice a n c, .int .i64 p, .int .i64 q] 50)).heap[w.heap.size + 1]? = some (.cells #[.int .i64 k, .int .i64 f, .slice a n c, .int .i64 p, .int .i64 q] 50) ∧ Kept No w ((w.alloc (.cells #[.int .i64 k, .int .i64 f, .slice a n c, .int .i64 p, .int .i64 q] 50)).alloc (.cells #[.int .i64 k, .int .i64 f, .slice a n c, .int .i64 p, .int .i64 q] 50))) := ⟨b0, b1, k1⟩
  clear h b0 b1 k1
  go_enter Tryd.func27, Tryd.ntmps27
  go_wp2_with (go_at_call 33; refine cE.mono ?_; rintro e w1 ⟨rfl, k2⟩; obtain ⟨x0, x1, x2, x3, x4⟩ := five (k2.at' HB.out.1 (fun h => h)); obtain ⟨y0, y1, y2, y3, y4⟩ := five (k2.at' HB.out.2.1 (fun h => h)); have HK := hid (HB.out.2.2.trans k2 (fun _ h => .inl h)); clear k2 cE)
  go_ret
  exact ⟨rfl, HK.out⟩

set_option maxHeartbeats 8000000 in
theorem eqChans_yes {F : Nat → Prop} {a : Option Addr} {n c : Nat} {L : List Ch} (w : World) (h : Ls 5 elCh w F a n c L) :
    Calls Tryd.prog 26 #[.slice a n c, .slice a n c, .func (.func 27) #[] #[]] w fun e w' => e = .returned (.bool true) ∧ Kept No w w' := by
  have HH : Hid (Ls 5 elCh w F a n c L ∧ L.length = n) := ⟨h, h.len⟩
  have hcap := h.cap
  have hmax := h.max
  clear h
  go_enter Tryd.func26, Tryd.ntmps26
  go_wp2
  go_loopw [17] (fun y wr => ∃ i : Nat, y = .int .i64 i ∧ i ≤ n ∧ Kept No w wr) (fun y _ => n - (intOf y).toNat)
  case atStart => exact ⟨0, rfl, Nat.zero_le _, Kept.refl _ _⟩
  case round =>
    obtain ⟨i, rfl, hi, hk⟩ := hrel
    by_cases hlt : i < n
    · have hiz : (i : Int) < (n : Int) := by omega
      obtain ⟨x, hx⟩ : ∃ x, L[i]? = some x := ⟨_, List.getElem?_eq_getElem (by rw [HH.out.2]; exact hlt)⟩
      obtain ⟨b, o, cs, rfl, _, _, hr, ⟨ta, tn, tc, hcs, hT⟩, _⟩ := HH.out.1.at' i x hx
      have HY : Hid (∀ W, Kept No w W → W.cell? ⟨b, o + i * 5, none⟩ = some (.int .i64 x.kd) ∧ W.cell? ⟨b, o + i * 5 + 1, none⟩ = some (.int .i64 x.fr) ∧ W.cell? ⟨b, o + i * 5 + 2, none⟩ = some (.slice ta tn tc) ∧ W.cell? ⟨b, o + i * 5 + 3, none⟩ = some (.int .i64 x.ph) ∧ W.cell? ⟨b, o + i * 5 + 4, none⟩ = some (.int .i64 x.pe)) := fun W K => ⟨K.cell (hr 0 _ (by rw [hcs]; rfl)) (fun h => h), K.cell (hr 1 _ (by rw [hcs]; rfl)) (fun h => h), K.cell (hr 2 _ (by rw [hcs]; rfl)) (fun h => h), K.cell (hr 3 _ (by rw [hcs]; rfl)) (fun h => h), K.cell (hr 4 _ (by rw [hcs]; rfl)) (fun h => h)⟩
      have HT := hid hT
      have HK := hid hk
      clear hr hcs hT hk hx
      generalize x.kd = X0 at *
      generalize x.fr = X1 at *
      generalize x.ph = X3 at *
      generalize x.pe = X4 at *
      obtain ⟨y0, y1, y2, y3, y4⟩ := HY.out wr HK.out
      go_upto_region 6 with fail
      have kn : Kept No wr (wr.alloc (.cells #[.int .i64 X0, .int .i64 X1, .slice ta tn tc, .int .i64 X3, .int .i64 X4] 50)) := (Kept.refl No wr).alloc _
      have bn := alloc_new wr (.cells #[.int .i64 X0, .int .i64 X1, .slice ta tn tc, .int .i64 X3, .int .i64 X4] 50)
      obtain ⟨q, hq⟩ : ∃ q, wr.heap.size = q := ⟨_, rfl⟩
      rw [hq] at bn ⊢
      clear y0 y1 y2 y3 y4 hq
      generalize wr.alloc (.cells #[.int .i64 X0, .int .i64 X1, .slice ta tn tc, .int .i64 X3, .int .i64 X4] 50) = w1 at *
      obtain ⟨y0, y1, y2, y3, y4⟩ := HY.out w1 (HK.out.trans kn (fun _ h => .inl h))
      have H1 : Hid (Kept No w w1 ∧ w1.heap[q]? = some (.cells #[.int .i64 X0, .int .i64 X1, .slice ta tn tc, .int .i64 X3, .int .i64 X4] 50)) := ⟨HK.out.trans kn (fun _ h => .inl h), bn⟩
      clear kn bn
      go_upto_region 7 with fail
      have kn : Kept No w1 (w1.alloc (.cells #[.int .i64 X0, .int .i64 X1, .slice ta tn tc, .int .i64 X3, .int .i64 X4] 50)) := (Kept.refl No w1).alloc _
      have bn := alloc_new w1 (.cells #[.int .i64 X0, .int .i64 X1, .slice ta tn tc, .int .i64 X3, .int .i64 X4] 50)
      obtain ⟨q2, hq2⟩ : ∃ q, w1.heap.size = q := ⟨_, rfl⟩
      rw [hq2] at bn ⊢
      clear y0 y1 y2 y3 y4 hq2
      generalize w1.alloc (.cells #[.int .i64 X0, .int .i64 X1, .slice ta tn tc, .int .i64 X3, .int .i64 X4] 50) = w2 at *
      have kw2 := H1.out.1.trans kn (fun _ h => .inl h)
      obtain ⟨u0, u1, u2, u3, u4⟩ := five (kn.at' H1.out.2 (fun h => h))
      obtain ⟨v0, v1, v2, v3, v4⟩ := five bn
      have cS := channel_yes (k := X0) (f := X1) (p := X3) (q := X4) w2 (HT.out.kept kw2 (fun _ _ h => h) (elI_kept kw2 (fun _ _ h => h)))
      have H2 := hid kw2
      clear kn bn kw2
      go_wp2_with (go_at_call 27; refine cS.mono ?_; rintro e w3 ⟨rfl, k3⟩; have H3 := hid (H2.out.trans k3 (fun _ h => .inl h)); clear k3 cS)
      go_roundw
      case rel => exact ⟨i + 1, by go_num, by omega, H3.out⟩
      case measure => simp [intOf]; omega
    · have hiz : ¬ (i : Int) < (n : Int) := by omega
      go_wp2
      go_ret
      exact ⟨rfl, hk⟩
end Go.Proofs.YtdohjhhflfnncaaDoor
