/-
  'step': a piece of the memory written into it.
-/
import Derived.Test.YtgapljgnedbkiaaStep3
import Derived.Deep.RegionHeld
namespace Go.Proofs.Ytgapljgnedbkiaa
open Go.RowKit
set_option linter.unusedVariables false

/-- may the piece be taken -/
def mvOk (n : Nat) (N : Int) (dn : Nat) : Bool := decide (0 ≤ N ∧ N ≤ n ∧ (dn : Int) ≤ n - N)
theorem rdX_len {xs : List Int} {d M : Nat} (h : d + M ≤ xs.length) : (rdX xs d M).length = M := by
  simp [rdX]; omega

set_option maxRecDepth 100000 in
set_option maxHeartbeats 4000000 in
theorem step_stay (w : World) (B g n cg : Nat) (xs : List Int) (Gx : Nat → Prop) (xa : Option Addr) (xc : Nat) (Gd : Nat → Prop) (da : Option Addr) (dn dc : Nat) (ds : List Int) (Fx A N V : Int) (h : Stp w B g n cg xs Gx xa xc Gd da dn dc ds) (hno : mvOk n N dn = false) :
    Calls Try.prog 17 #[.slice (some ⟨g, 0, none⟩) n cg, .slice xa n xc, .agg #[.int .i64 6, .int .i64 Fx, .int .i64 A, .int .i64 N, .int .i64 V, .slice da dn dc]] w fun ex w' => ex = .returned (.tuple #[.slice xa n xc, .bool true]) ∧ StDid w B g n cg Gx xs xa xc w' := by
  have k0 : Kept No w (w.alloc (.cells #[.int .i64 6, .int .i64 Fx, .int .i64 A, .int .i64 N, .int .i64 V, .slice da dn dc] 34)) := (Kept.refl No w).alloc _
  have blk := OpBlk.new w ⟨6, Fx, A, N, V, ds⟩ da dn dc
  obtain ⟨e0, e1, e2, e3, e4, e5⟩ := blk.cells
  simp only at e0 e1 e2 e3 e4 e5
  have hb := h.kept k0
  have HB : Hid (Stp (w.alloc (.cells #[.int .i64 6, .int .i64 Fx, .int .i64 A, .int .i64 N, .int .i64 V, .slice da dn dc] 34)) B g n cg xs Gx xa xc Gd da dn dc ds ∧ Kept No w (w.alloc (.cells #[.int .i64 6, .int .i64 Fx, .int .i64 A, .int .i64 N, .int .i64 V, .slice da dn dc] 34)) ∧ OpBlk (w.alloc (.cells #[.int .i64 6, .int .i64 Fx, .int .i64 A, .int .i64 N, .int .i64 V, .slice da dn dc] 34)) w.heap.size ⟨6, Fx, A, N, V, ds⟩ da dn dc) := ⟨hb, k0, blk⟩
  have HH : Hid (Stp w B g n cg xs Gx xa xc Gd da dn dc ds) := h
  have hqg : w.heap.size ≠ g := by
    have := h.mm.lt
    omega
  have HQG : Hid (w.heap.size ≠ g) := hqg
  have hn := h.hn
  have hdd := h.hd
  have HD : Hid (StDid w B g n cg Gx xs xa xc (w.alloc (.cells #[.int .i64 6, .int .i64 Fx, .int .i64 A, .int .i64 N, .int .i64 V, .slice da dn dc] 34))) := h.same k0
  have hno2 : ¬ (0 ≤ N ∧ N ≤ n ∧ (dn : Int) ≤ n - N) := by simpa [mvOk] using hno
  clear h hb k0 blk hqg hno
  generalize hW : (w.alloc (.cells #[.int .i64 6, .int .i64 Fx, .int .i64 A, .int .i64 N, .int .i64 V, .slice da dn dc] 34)) = W at *
  by_cases h1 : N < 0
  · clear hno2
    go_enter Try.func17, Try.ntmps17
    go_wp2_with fail
    go_ret2
    exact ⟨rfl, HD.out⟩
  · by_cases h2 : (n : Int) < N
    · clear hno2
      go_enter Try.func17, Try.ntmps17
      go_wp2_with fail
      go_ret2
      exact ⟨rfl, HD.out⟩
    · have h3 : (n : Int) - N < dn := by omega
      have e : wrap64 ((n : Int) - N) = n - N := by unfold wrap64; omega
      clear hno2
      go_enter Try.func17, Try.ntmps17
      go_wp2_with fail
      go_ret2
      exact ⟨rfl, HD.out⟩

set_option maxRecDepth 100000 in
set_option maxHeartbeats 4000000 in
theorem step_move (w : World) (B g n cg : Nat) (xs : List Int) (Gx : Nat → Prop) (xa : Option Addr) (xc : Nat) (Gd : Nat → Prop) (da : Option Addr) (dn dc : Nat) (ds : List Int) (Fx A V : Int) (d : Nat) (h : Stp w B g n cg xs Gx xa xc Gd da dn dc ds) (hd : d + dn ≤ n) :
    Calls Try.prog 17 #[.slice (some ⟨g, 0, none⟩) n cg, .slice xa n xc, .agg #[.int .i64 6, .int .i64 Fx, .int .i64 A, .int .i64 d, .int .i64 V, .slice da dn dc]] w fun ex w' => ∃ ya yc, ex = .returned (.tuple #[.slice ya n yc, .bool true]) ∧ StDid w B g n cg Gx (wrX xs Fx A (rdX xs d dn)) ya yc w' := by
  have k0 : Kept No w (w.alloc (.cells #[.int .i64 6, .int .i64 Fx, .int .i64 A, .int .i64 d, .int .i64 V, .slice da dn dc] 34)) := (Kept.refl No w).alloc _
  have blk := OpBlk.new w ⟨6, Fx, A, d, V, ds⟩ da dn dc
  obtain ⟨e0, e1, e2, e3, e4, e5⟩ := blk.cells
  simp only at e0 e1 e2 e3 e4 e5
  have hb := h.kept k0
  have HB : Hid (Stp (w.alloc (.cells #[.int .i64 6, .int .i64 Fx, .int .i64 A, .int .i64 d, .int .i64 V, .slice da dn dc] 34)) B g n cg xs Gx xa xc Gd da dn dc ds ∧ Kept No w (w.alloc (.cells #[.int .i64 6, .int .i64 Fx, .int .i64 A, .int .i64 d, .int .i64 V, .slice da dn dc] 34)) ∧ OpBlk (w.alloc (.cells #[.int .i64 6, .int .i64 Fx, .int .i64 A, .int .i64 d, .int .i64 V, .slice da dn dc] 34)) w.heap.size ⟨6, Fx, A, d, V, ds⟩ da dn dc) := ⟨hb, k0, blk⟩
  have HH : Hid (Stp w B g n cg xs Gx xa xc Gd da dn dc ds) := h
  have hqg : w.heap.size ≠ g := by
    have := h.mm.lt
    omega
  have HQG : Hid (w.heap.size ≠ g) := hqg
  have hn := h.hn
  have hdd := h.hd
  have c24 := refRead_any _ (d : Int) (dn : Int) xa n xc xs _ hb.zx hn
  have hok : wi xs.length d dn = true := wi_iff.2 (by rw [h.lx]; omega)
  obtain ⟨D, hD⟩ : ∃ D, D = rdX xs d dn := ⟨_, rfl⟩
  have hDl : D.length = dn := by rw [hD]; exact rdX_len (by rw [h.lx]; exact hd)
  have e1 : rdR xs d dn = D := by unfold rdR; rw [hok, if_pos rfl, hD]
  rw [e1, hDl] at c24
  rw [hok] at c24
  rw [← hD]
  have HD : Hid (D = rdX xs d dn ∧ D.length = dn) := ⟨hD, hDl⟩
  obtain ⟨hcg1, hcg2⟩ : n + 40 ≤ cg ∧ cg ≤ 9223372036854775807 := by
    obtain ⟨cap', cur, hv, _, _, h1, h2, _⟩ := h.mm.blk (g := g) rfl
    injection hv with _ _ q3
    rw [h.lx, mks_length] at h1
    omega
  have hgl := hb.mm.lt
  have HGL : Hid (g < (w.alloc (.cells #[.int .i64 6, .int .i64 Fx, .int .i64 A, .int .i64 d, .int .i64 V, .slice da dn dc] 34)).heap.size) := hgl
  clear h hb k0 blk hqg hok hD hDl e1 hgl
  generalize hW : (w.alloc (.cells #[.int .i64 6, .int .i64 Fx, .int .i64 A, .int .i64 d, .int .i64 V, .slice da dn dc] 34)) = W at *
  have f1 : wrap64 ((n : Int) - d) = n - d := by unfold wrap64; omega
  have f2 : ¬ ((n : Int) - d < dn) := by omega
  have f3 : wrap64 ((d : Int) + dn) = ((d + dn : Nat) : Int) := by unfold wrap64; omega
  have f4 : ¬ ((d : Int) < 0) := by omega
  have f5 : ¬ ((n : Int) < d) := by omega
  have f6 : cg ≠ d := by omega
  go_enter Try.func17, Try.ntmps17
  go_upto_region 42 with (go_at_call 24; refine c24.mono ?_; rintro ex w1 ⟨v1, rfl, own1, kp1⟩; obtain ⟨a1, c1, rfl⟩ := owns_shp own1; have H1 : Hid (w1.ownsRow W.heap.size 2 1 (.slice a1 dn c1) dn (D.map iv) ∧ Kept No W w1) := ⟨own1, kp1⟩; clear own1 kp1 c24 e0 e1 e2 e3 e4 e5; obtain ⟨e0, e1, e2, e3, e4, e5⟩ := (HB.out.2.2.kept H1.out.2 (fun h => h)).cells; simp only at e0 e1 e2 e3 e4 e5)
  have c12 : ∀ w' : World, Kept No w1 w' → Calls Try.prog 12 #[.slice (some ⟨g, 0, none⟩) n cg, .int .i64 Fx, .int .i64 A, .slice (some ⟨g, d, none⟩) dn (cg - d)] w' fun ex w'' => ex = .returned (.bool (wb n Fx A dn)) ∧ Mm w'' B (.slice (some ⟨g, 0, none⟩) n cg) (wrX xs Fx A D) (mks 40) ∧ Kept (fun k => (Value.slice (some ⟨g, 0, none⟩) n cg).ownBlock = some k) w' w'' := by
    intro w' k
    have hm := ((HB.out.1.kept H1.out.2).kept k).mm
    refine write_any (fun k => k = g) B Fx A (some ⟨g, 0, none⟩) (some ⟨g, d, none⟩) n cg dn (cg - d) xs (mks 40) D w' hm HH.out.lx ?_
    have := hm.zsg.piece d dn (cg - d) hd (by omega) (by omega) (some ⟨g, d, none⟩) (fun _ => by simp [add_none]) (fun e => by cases e)
    rw [HD.out.1]
    simpa [rdX] using this
  have f7 : IntKind.i64.wrap ((d : Int) + dn) = ((d + dn : Nat) : Int) := by rw [IntKind.wrap_i64]; omega
  go_region_held (fun w' => w'.cell? ⟨w.heap.size, 1, none⟩ = some (.int .i64 Fx) ∧ w'.cell? ⟨w.heap.size, 2, none⟩ = some (.int .i64 A) ∧ w'.cell? ⟨w.heap.size, 3, none⟩ = some (.int .i64 d)) (go_keep) (first
    | (go_at_call 12; refine (c12 _ ((Kept.refl No w1).drew)).mono ?_; rintro ex w2 ⟨rfl, hm2, kp2'⟩; have kp2 : Kept (fun k => k = g) w1 w2 := ((Kept.refl (fun k => k = g) w1).drew).trans (kp2'.mono (fun k e => own_g e)) (fun k h => .inl h); have H2 : Hid (Mm w2 B (.slice (some ⟨g, 0, none⟩) n cg) (wrX xs Fx A D) (mks 40) ∧ Kept (fun k => k = g) w1 w2) := ⟨hm2, kp2⟩; clear hm2 kp2 kp2' e0 e1 e2 e3 e4 e5; obtain ⟨e0, e1, e2, e3, e4, e5⟩ := ((HB.out.2.2.kept H1.out.2 (fun h => h)).kept H2.out.2 (fun e => HQG.out e)).cells; simp only at e0 e1 e2 e3 e4 e5))
  have c25 := refWrite_any _ (fun k => W.heap.size ≤ k) Fx A xa a1 n xc dn c1 xs D w2 ((HB.out.1.kept H1.out.2).zx.kept H2.out.2 (fun k hk e => HB.out.1.gx k hk e)) (by
    have o := H1.out.1
    obtain ⟨a', c', hv, hz⟩ := Zs.of_owns (show w1.ownsRow W.heap.size 2 1 (.slice a1 dn c1) D.length (D.map iv) by rw [HD.out.2]; exact o)
    rw [HD.out.2] at hv hz
    injection hv with q1 q2 q3
    rw [q1, q3]
    exact (hz.mono (fun k e => (o.lt k e).1)).kept H2.out.2 (fun k hk e => by have := HGL.out; omega)) hn
  go_wp2_with (go_at_call 25; refine c25.mono ?_; rintro ex w3 ⟨v, rfl, own, kp3⟩; obtain ⟨ya, yc, rfl, hdd⟩ := did_write HH.out (HB.out.2.1.trans H1.out.2 (fun k h => h.elim)) H2.out.1 (by rw [wrX_length]; exact HH.out.lx) H2.out.2 own kp3; have HDD : Hid (StDid w B g n cg Gx (wrX xs Fx A D) ya yc w3) := hdd; clear own kp3 hdd c25)
  go_ret2
  exact ⟨ya, yc, by simp, HDD.out⟩

end Go.Proofs.Ytgapljgnedbkiaa
