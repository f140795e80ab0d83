/-
  'known': the bytes of the image of nothing, and of one port.
-/
import Derived.Test.YtolmhoenjcinjaaGreatILs
import Derived.BigQuiet
namespace Go.Proofs.YtolmhoenjcinjaaGreat
open Go.RowKit
set_option linter.unusedVariables false
set_option maxRecDepth 100000

def im0 : Im := ⟨[], [], []⟩
def im1 : Im := ⟨[], [⟨1, 0, true, 2, 0, 0⟩], []⟩
theorem enc0 : encIm im0 = [0, 0, 0, 0, 0, 0, 0, 0, 0, 0, 0, 0] := by decide
theorem enc1 : (encIm im1).length = 53 ∧ (encIm im1)[15]? = some 1 ∧ (encIm im1)[23]? = some 0 ∧ (encIm im1)[24]? = some 1 := by decide
theorem known0 : encE im0 = 0 ∧ (encX im0).length = 24 ∧ (encX im0).take 8 = [66, 75, 1, 1, 0, 0, 0, 12] := by
  have hok : encOk im0 = true := by unfold encOk; rw [enc0]; decide
  have e1 : encX im0 = sealed 1 (encIm im0) := by unfold encX; rw [hok]; rfl
  refine ⟨by unfold encE; rw [hok]; rfl, by rw [e1, sealed_length, enc0]; rfl, ?_⟩
  rw [e1, sealed_head, enc0]; decide
theorem known1 : encE im1 = 0 ∧ (encX im1).length = 65 ∧ (encX im1)[23]? = some 1 ∧ (encX im1)[31]? = some 0 ∧ (encX im1)[32]? = some 1 := by
  obtain ⟨hl, h15, h23, h24⟩ := enc1
  have hok : encOk im1 = true := by unfold encOk; rw [hl]; decide
  have e1 : encX im1 = sealed 1 (encIm im1) := by unfold encX; rw [hok]; rfl
  refine ⟨by unfold encE; rw [hok]; rfl, by rw [e1, sealed_length, hl], ?_, ?_, ?_⟩
  · rw [e1]; exact (sealed_at (i := 15) (by rw [hl]; decide)).trans h15
  · rw [e1]; exact (sealed_at (i := 23) (by rw [hl]; decide)).trans h23
  · rw [e1]; exact (sealed_at (i := 24) (by rw [hl]; decide)).trans h24
theorem encX_lt {x : Im} (h : okIm x) : ∀ b ∈ encX x, b < 256 := by
  unfold encX
  split
  · exact sealed_lt (by decide) (dcIm.lt x h)
  · intro b hb; cases hb

theorem img_nil (w : World) (F : Nat → Prop) : Img w F none 0 0 none 0 0 none 0 0 im0 :=
  ⟨⟨rfl, Nat.le_refl _, by omega, fun _ => rfl, fun i x hx => by simp [im0] at hx⟩, ⟨rfl, Nat.le_refl _, by omega, fun _ => rfl, fun i x hx => by simp [im0] at hx⟩, ⟨rfl, Nat.le_refl _, by omega, fun _ => rfl, fun i x hx => by simp [im0] at hx⟩⟩
theorem img_port (w : World) : Img (w.alloc (.cells #[.int .i64 1, .int .i64 0, .bool true, .int .i64 2, .int .i64 0, .int .i64 0] 70)) (fun k => k = w.heap.size) none 0 0 (some ⟨w.heap.size, 0, none⟩) 1 1 none 0 0 im1 := by
  have hb : Bk (w.alloc (.cells #[.int .i64 1, .int .i64 0, .bool true, .int .i64 2, .int .i64 0, .int .i64 0] 70)) w.heap.size [.int .i64 1, .int .i64 0, .bool true, .int .i64 2, .int .i64 0, .int .i64 0] 70 := heap_alloc_new w _
  refine ⟨⟨rfl, Nat.le_refl _, by omega, fun _ => rfl, fun i x hx => by simp [im1] at hx⟩, ⟨rfl, Nat.le_refl _, by omega, fun h => (by cases h), fun i x hx => ?_⟩, ⟨rfl, Nat.le_refl _, by omega, fun _ => rfl, fun i x hx => by simp [im1] at hx⟩⟩
  match i, hx with
  | 0, hx =>
    simp [im1] at hx
    subst hx
    refine ⟨w.heap.size, 0, _, rfl, rfl, ?_, ?_, rfl, ?_⟩
    · rfl
    · intro j v hj
      rw [show 0 + 0 * 6 + j = j by omega]
      exact hb.cell hj
    · unfold okPo I6; simp
  | i + 1, hx => simp [im1] at hx

set_option maxHeartbeats 8000000 in
theorem known_any (w : World) : Calls Tryz.prog 10 #[] w fun ex w' => ex = .returned (.bool true) ∧ Kept No w w' := by
  obtain ⟨k1, k2, k3⟩ := known0
  obtain ⟨j1, j2, j3, j4, j5⟩ := known1
  have ce := encode_img No none 0 0 none 0 0 none 0 0 im0 w (img_nil w No) (fun _ h => h.elim)
  rw [k1, k2] at ce
  have hlt0 := encX_lt (x := im0) (img_nil w No).ok
  have hlt1 := encX_lt (x := im1) (img_port w).ok
  obtain ⟨X0, hX0⟩ : ∃ X, X = encX im0 := ⟨_, rfl⟩
  obtain ⟨X1, hX1⟩ : ∃ X, X = encX im1 := ⟨_, rfl⟩
  rw [← hX0] at ce k2 k3 hlt0
  rw [← hX1] at j2 j3 j4 j5 hlt1
  have HX0 : Hid (X0.length = 24 ∧ X0.take 8 = [66, 75, 1, 1, 0, 0, 0, 12] ∧ ∀ b ∈ X0, b < 256) := ⟨k2, k3, hlt0⟩
  have HX1 : Hid (X1 = encX im1 ∧ encE im1 = 0 ∧ X1.length = 65 ∧ X1[23]? = some 1 ∧ X1[31]? = some 0 ∧ X1[32]? = some 1 ∧ ∀ b ∈ X1, b < 256) := ⟨hX1, j1, j2, j3, j4, j5, hlt1⟩
  clear k1 k2 k3 j1 j2 j3 j4 j5 hlt0 hlt1 hX0 hX1
  go_enter Tryz.func10, Tryz.ntmps10
  go_upto_region 2 with (go_at_call 8; refine ce.mono ?_; rintro ex w1 ⟨a, n, c, rfl, hown, hk⟩)
  clear ce
  obtain ⟨g, cap, hv, hb, hg, hn, hm, hc, hf⟩ : ∃ g cap, Value.slice a n c = .slice (some ⟨g, 0, none⟩) 24 cap ∧ w.heap.size ≤ g ∧ g < w1.heap.size ∧ 24 ≤ cap ∧ cap ≤ maxLen ∧ (∀ i u, (X0.map bv)[i]? = some u → w1.cell? ⟨g, i, none⟩ = some u) ∧ ∀ i, w1.frozen? ⟨g, i, none⟩ = false := by
    rcases owns_cells hown with ⟨_, h0⟩ | h
    · exact absurd h0 (by decide)
    · exact h
  injection hv with e1 e2 e3
  subst e1 e2 e3
  have hm' : c ≤ 9223372036854775807 := hm
  have hbs : Bs w1 (fun k => k = g) (some ⟨g, 0, none⟩) 24 c X0 := ⟨HX0.out.1, hn, hm', fun h => (by cases h), fun i hi => ⟨g, 0, rfl, rfl, by rw [Nat.zero_add]; exact hc i _ (bv_get (by rw [HX0.out.1]; exact hi))⟩, HX0.out.2.2⟩
  have hb8 := hbs.take 8 (by omega)
  rw [HX0.out.2.1] at hb8
  have hk2 : Kept No w1 (w1.alloc (.cells #[.int .u8 66, .int .u8 75, .int .u8 1, .int .u8 1, .int .u8 0, .int .u8 0, .int .u8 0, .int .u8 12] 5)) := (Kept.refl No w1).alloc _
  have hlit := Bs.lit w1 [66, 75, 1, 1, 0, 0, 0, 12] (by decide) (by decide)
  have cs := same_any _ _ _ _ _ _ _ _ _ _ _ (hb8.kept hk2 (fun _ _ h => h)) hlit
  rw [decide_eq_true rfl] at cs
  have HKK : Hid (Kept No w w1) := hk
  have HK2 : Hid (Kept No w1 (w1.alloc (.cells #[.int .u8 66, .int .u8 75, .int .u8 1, .int .u8 1, .int .u8 0, .int .u8 0, .int .u8 0, .int .u8 12] 5))) := hk2
  clear hown hk hb hg hm hc hf hbs hb8 hlit hk2
  go_upto_region 4 with (go_at_call 13; refine cs.mono ?_; rintro ex w2 ⟨rfl, kd, rfl⟩)
  have HK3 : Hid (Kept No w1 ((w1.alloc (.cells #[.int .u8 66, .int .u8 75, .int .u8 1, .int .u8 1, .int .u8 0, .int .u8 0, .int .u8 0, .int .u8 12] 5)).drewN kd)) := HK2.out.drewN kd
  clear cs HK2
  generalize (w1.alloc (.cells #[.int .u8 66, .int .u8 75, .int .u8 1, .int .u8 1, .int .u8 0, .int .u8 0, .int .u8 0, .int .u8 12] 5)).drewN kd = w2 at *
  have ce := encode_img (fun k => k = w2.heap.size) none 0 0 (some ⟨w2.heap.size, 0, none⟩) 1 1 none 0 0 im1 (w2.alloc (.cells #[.int .i64 1, .int .i64 0, .bool true, .int .i64 2, .int .i64 0, .int .i64 0] 70)) (img_port w2) (fun k h => by subst h; simp)
  rw [HX1.out.2.1, ← HX1.out.1, HX1.out.2.2.1] at ce
  have HK4 : Hid (Kept No w2 (w2.alloc (.cells #[.int .i64 1, .int .i64 0, .bool true, .int .i64 2, .int .i64 0, .int .i64 0] 70))) := (Kept.refl No w2).alloc _
  go_upto_region 5 with (go_at_call 8; refine ce.mono ?_; rintro ex w3 ⟨a', n', c', rfl, hown, hk⟩)
  clear ce
  obtain ⟨g', cap, hv, hb, hg, hn', hm, hc, hf⟩ : ∃ g cap, Value.slice a' n' c' = .slice (some ⟨g, 0, none⟩) 65 cap ∧ (w2.alloc (.cells #[.int .i64 1, .int .i64 0, .bool true, .int .i64 2, .int .i64 0, .int .i64 0] 70)).heap.size ≤ g ∧ g < w3.heap.size ∧ 65 ≤ cap ∧ cap ≤ maxLen ∧ (∀ i u, (X1.map bv)[i]? = some u → w3.cell? ⟨g, i, none⟩ = some u) ∧ ∀ i, w3.frozen? ⟨g, i, none⟩ = false := by
    rcases owns_cells hown with ⟨_, h0⟩ | h
    · exact absurd h0 (by decide)
    · exact h
  injection hv with e1 e2 e3
  subst e1 e2 e3
  have r31 : w3.cell? ⟨g', 31, none⟩ = some (.int .u8 0) := hc 31 _ (by rw [List.getElem?_map, HX1.out.2.2.2.2.1]; rfl)
  have r23 : w3.cell? ⟨g', 23, none⟩ = some (.int .u8 1) := hc 23 _ (by rw [List.getElem?_map, HX1.out.2.2.2.1]; rfl)
  have r32 : w3.cell? ⟨g', 32, none⟩ = some (.int .u8 1) := hc 32 _ (by rw [List.getElem?_map, HX1.out.2.2.2.2.2.1]; rfl)
  have HK5 : Hid (Kept No (w2.alloc (.cells #[.int .i64 1, .int .i64 0, .bool true, .int .i64 2, .int .i64 0, .int .i64 0] 70)) w3) := hk
  clear hown hk hb hg hm hc hf
  go_wp2
  go_ret
  exact ⟨rfl, ((HKK.out.trans HK3.out (fun _ h => h.elim)).trans HK4.out (fun _ h => h.elim)).trans HK5.out (fun _ h => h.elim)⟩

end Go.Proofs.YtolmhoenjcinjaaGreat
