/-
  'step': Write.
-/
import Derived.Test.YtgapljgnedbkiaaStep
namespace Go.Proofs.Ytgapljgnedbkiaa
open Go.RowKit
set_option linter.unusedVariables false

set_option maxRecDepth 100000 in
set_option maxHeartbeats 4000000 in
theorem step_write (w : World) (B g n cg : Nat) (xs : List Int) (Gx : Nat → Prop) (xa : Option Addr) (xc : Nat) (Gd : Nat → Prop) (da : Option Addr) (dn dc : Nat) (ds : List Int) (Fx A N V : Int) (h : Stp w B g n cg xs Gx xa xc Gd da dn dc ds) :
    Calls Try.prog 17 #[.slice (some ⟨g, 0, none⟩) n cg, .slice xa n xc, .agg #[.int .i64 4, .int .i64 Fx, .int .i64 A, .int .i64 N, .int .i64 V, .slice da dn dc]] w fun ex w' => ∃ ya yc, ex = .returned (.tuple #[.slice ya n yc, .bool true]) ∧ StDid w B g n cg Gx (wrX xs Fx A ds) ya yc w' := by
  have k0 : Kept No w (w.alloc (.cells #[.int .i64 4, .int .i64 Fx, .int .i64 A, .int .i64 N, .int .i64 V, .slice da dn dc] 34)) := (Kept.refl No w).alloc _
  have blk := OpBlk.new w ⟨4, Fx, A, N, V, ds⟩ da dn dc
  obtain ⟨e0, e1, e2, e3, e4, e5⟩ := blk.cells
  simp only at e0 e1 e2 e3 e4 e5
  have hb := h.kept k0
  have HB : Hid (Stp (w.alloc (.cells #[.int .i64 4, .int .i64 Fx, .int .i64 A, .int .i64 N, .int .i64 V, .slice da dn dc] 34)) B g n cg xs Gx xa xc Gd da dn dc ds ∧ Kept No w (w.alloc (.cells #[.int .i64 4, .int .i64 Fx, .int .i64 A, .int .i64 N, .int .i64 V, .slice da dn dc] 34)) ∧ OpBlk (w.alloc (.cells #[.int .i64 4, .int .i64 Fx, .int .i64 A, .int .i64 N, .int .i64 V, .slice da dn dc] 34)) w.heap.size ⟨4, Fx, A, N, V, ds⟩ da dn dc) := ⟨hb, k0, blk⟩
  have HH : Hid (Stp w B g n cg xs Gx xa xc Gd da dn dc ds) := h
  have hqg : w.heap.size ≠ g := by
    have := h.mm.lt
    omega
  have HQG : Hid (w.heap.size ≠ g) := hqg
  have hn := h.hn
  have hdd := h.hd
  have c11 := marked_mm _ da dn dc ds _ hb.zd hdd
  have hgl := hb.mm.lt
  have HGL : Hid (g < (w.alloc (.cells #[.int .i64 4, .int .i64 Fx, .int .i64 A, .int .i64 N, .int .i64 V, .slice da dn dc] 34)).heap.size) := hgl
  clear h hb k0 blk hqg hgl
  generalize hW : (w.alloc (.cells #[.int .i64 4, .int .i64 Fx, .int .i64 A, .int .i64 N, .int .i64 V, .slice da dn dc] 34)) = W at *
  go_enter Try.func17, Try.ntmps17
  go_wp2_with (first
    | (go_at_call 11; refine c11.mono ?_; rintro ex w1 ⟨q, cq, rfl, hq, hmq, kp1⟩; have c12 := write_any _ B Fx A (some ⟨g, 0, none⟩) (some ⟨q, 0, none⟩) n cg dn cq xs (mks 40) ds w1 (HB.out.1.kept kp1).mm HB.out.1.lx hmq.zsg; have H1 : Hid (Mm w1 W.heap.size (.slice (some ⟨q, 0, none⟩) dn cq) ds (mks 40) ∧ W.heap.size ≤ q ∧ Kept No W w1) := ⟨hmq, hq, kp1⟩; clear hq hmq kp1 e0 e1 e2 e3 e4 e5 c11; obtain ⟨e0, e1, e2, e3, e4, e5⟩ := (HB.out.2.2.kept H1.out.2.2 (fun h => h)).cells; simp only at e0 e1 e2 e3 e4 e5)
    | (go_at_call 12; refine c12.mono ?_; rintro ex w2 ⟨rfl, hm2, kp2'⟩; have kp2 : Kept (fun k => k = g) w1 w2 := kp2'.mono (fun k e => own_g e); have hqg2 : q ≠ g := (by have := H1.out.2.1; have := HGL.out; omega); have c25 := refWrite_any _ _ Fx A xa da n xc dn dc xs ds w2 ((HB.out.1.kept H1.out.2.2).zx.kept kp2 (fun k hk e => HB.out.1.gx k hk e)) ((HB.out.1.kept H1.out.2.2).zd.kept kp2 (fun k hk e => HB.out.1.gd k hk e)) hn; have H2 : Hid (Mm w2 B (.slice (some ⟨g, 0, none⟩) n cg) (wrX xs Fx A ds) (mks 40) ∧ Mm w2 W.heap.size (.slice (some ⟨q, 0, none⟩) dn cq) ds (mks 40) ∧ Kept (fun k => k = g) w1 w2 ∧ q ≠ g ∧ Zs w2 Gd da dn dc ds) := ⟨hm2, H1.out.1.kept kp2 (fun k e e2 => hqg2 (by have := own_g e; omega)), kp2, hqg2, (HB.out.1.kept H1.out.2.2).zd.kept kp2 (fun k hk e => HB.out.1.gd k hk e)⟩; clear hm2 kp2 kp2' hqg2 e0 e1 e2 e3 e4 e5 c12; obtain ⟨e0, e1, e2, e3, e4, e5⟩ := ((HB.out.2.2.kept H1.out.2.2 (fun h => h)).kept H2.out.2.2.1 (fun e => HQG.out e)).cells; simp only at e0 e1 e2 e3 e4 e5)
    | (go_at_call 25; refine c25.mono ?_; rintro ex w3 ⟨v, rfl, own, kp3⟩; obtain ⟨ya, yc, hv, hz⟩ := Zs.of_owns own; have hzl : (wrX xs Fx A ds).length = n := (by rw [wrX_length]; exact HH.out.lx); rw [hzl] at hv hz; obtain rfl := hv; have H3 : Hid (Zs w3 (fun k => w2.heap.size ≤ k) ya n yc (wrX xs Fx A ds) ∧ Kept No w2 w3) := ⟨hz.mono (fun k e => (own.lt k e).1), kp3⟩; clear hz hzl own kp3 e0 e1 e2 e3 e4 e5 c25; obtain ⟨e0, e1, e2, e3, e4, e5⟩ := (((HB.out.2.2.kept H1.out.2.2 (fun h => h)).kept H2.out.2.2.1 (fun e => HQG.out e)).kept H3.out.2 (fun h => h)).cells; simp only at e0 e1 e2 e3 e4 e5; have c14 := left_any _ W.heap.size q dn cq da dc ds ds w3 (H2.out.2.2.2.2.kept H3.out.2 (fun _ _ h => h)) (H2.out.2.1.kept H3.out.2 (fun _ _ h => h)) (by have := H2.out.2.2.2.2.len; exact this); rw [decide_eq_true rfl] at c14)
    | (go_at_call 14; refine c14.mono ?_; rintro ex w4 ⟨rfl, q4, hw4⟩; have H4 : Hid (Kept No w3 w4) := (by rw [hw4]; exact (Kept.refl No w3).drewN q4); clear hw4 c14 e0 e1 e2 e3 e4 e5))
  go_loopw [28] (fun i wr => ∃ j : Nat, j ≤ dn ∧ i = .int .i64 j ∧ ∃ zs : List Int, zs.length = dn ∧ Mm wr W.heap.size (.slice (some ⟨q, 0, none⟩) dn cq) zs (mks 40) ∧ Kept (fun k => k = q) w4 wr) (fun i _ => dn - (intOf i).toNat)
  case atStart => exact ⟨0, by omega, rfl, ds, H2.out.2.2.2.2.len, (H2.out.2.1.kept H3.out.2 (fun _ _ h => h)).kept H4.out (fun _ _ h => h), Kept.refl _ _⟩
  case round =>
    obtain ⟨j, hj, rfl, zs, hzl, hmz, hkz⟩ := hrel
    have HR : Hid (zs.length = dn ∧ Mm wr W.heap.size (.slice (some ⟨q, 0, none⟩) dn cq) zs (mks 40) ∧ Kept (fun k => k = q) w4 wr) := ⟨hzl, hmz, hkz⟩
    by_cases hlt : j < dn
    · have hc := hmz.at_ (g := q) rfl (i := j) (by omega)
      have hf := hmz.fz (g := q) rfl j
      have hst := hmz.set_ (g := q) rfl (i := j) (by omega) 79
      have HS : Hid (Mm (wr.setCell ⟨q, j, none⟩ (.int .i64 79)) W.heap.size (.slice (some ⟨q, 0, none⟩) dn cq) (zs.set j 79) (mks 40)) := hst
      obtain ⟨z, hz⟩ : ∃ z, z = zs.getD j 0 := ⟨_, rfl⟩
      rw [← hz] at hc
      unfold iv at hc
      clear hmz hkz hst hz hzl
      go_wp2
      go_roundw
      case rel => exact ⟨j + 1, by omega, by go_num, zs.set j 79, by rw [List.length_set]; exact HR.out.1, HS.out, HR.out.2.2.setCell (p := ⟨q, j, none⟩) (.inl rfl) _⟩
      case measure => simp [intOf]; omega
    · clear hzl hmz hkz
      go_wp2
      go_ret2
      refine ⟨ya, yc, by simp, ?_⟩
      have kz := HR.out.2.2
      have hqw := H2.out.2.1.lt
      have s0 := HB.out.2.1.size
      have s1 := H1.out.2.2.size
      have s2 := H2.out.2.2.1.size
      refine ⟨((H2.out.1.kept H3.out.2 (fun _ _ h => h)).kept H4.out (fun _ _ h => h)).kept kz (fun k e e2 => H2.out.2.2.2.1 (by have := own_g e; omega)), by rw [wrX_length]; exact HH.out.lx, ?_, ?_⟩
      · exact (((H3.out.1.kept H4.out (fun _ _ h => h)).kept kz (fun k e e2 => by omega)).mono (fun k e => .inr (by omega)))
      · refine ((((((HB.out.2.1.mono (fun _ h => h.elim)).trans H1.out.2.2 (fun k h => h.elim)).trans H2.out.2.2.1 (fun k h => .inl h)).trans H3.out.2 (fun k h => h.elim)).trans H4.out (fun k h => h.elim)).trans kz (fun k h => .inr ?_))
        have := H1.out.2.1
        omega

end Go.Proofs.Ytgapljgnedbkiaa
