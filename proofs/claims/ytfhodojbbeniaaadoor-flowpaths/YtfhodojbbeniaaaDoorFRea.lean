/-
  Reach.
-/
import Derived.Test.YtfhodojbbeniaaaDoorFSq
import Derived.Test.YtfhodojbbeniaaaDoorFRch
import Derived.Test.YtfhodojbbeniaaaDoorFOnw
namespace Go.Proofs.YtfhodojbbeniaaaDoor
open Go.RowKit
set_option linter.unusedVariables false
set_option maxRecDepth 100000

/-- the image's ports and channels, as they are read -/
structure Rd (w : World) (F : Nat → Prop) (a1 : Option Addr) (n1 c1 : Nat) (a2 : Option Addr) (n2 c2 : Nat) (n0 : Nat) (ps : List Po) (L : List Ch) : Prop where
  qs : Ls 6 elPo w F a1 n1 c1 ps
  cs : Ls 5 elCh w F a2 n2 c2 L
  ds : ∀ x ∈ L, x.dst.length ≤ 1000000000000
  nn : n0 ≤ 1000000
  ed : (edg n0 ps L).length ≤ 1000000
theorem Rd.kept {w w' : World} {F G : Nat → Prop} {a1 : Option Addr} {n1 c1 : Nat} {a2 : Option Addr} {n2 c2 : Nat} {n0 : Nat} {ps : List Po} {L : List Ch} (h : Rd w F a1 n1 c1 a2 n2 c2 n0 ps L) (k : Kept G w w') (hd : ∀ b, F b → ¬ G b) : Rd w' F a1 n1 c1 a2 n2 c2 n0 ps L :=
  ⟨h.qs.kept k hd (elPo_kept k hd), h.cs.kept k hd (elCh_kept k hd), h.ds, h.nn, h.ed⟩

def farM (E : List (Nat × Nat)) (n i : Nat) : List Bool := rch (onw E n) i

set_option maxHeartbeats 8000000 in
theorem reach_any {F : Nat → Prop} {a0 a1 a2 : Option Addr} {n0 c0 n1 c1 n c : Nat} {ps : List Po} {L : List Ch} (w : World) (h : Rd w F a1 n1 c1 a2 n c n0 ps L) :
    Calls Tryd.prog 6 #[.agg #[.slice a0 n0 c0, .slice a1 n1 c1, .slice a2 n c]] w fun e w' => ∃ B g V, e = .returned (.slice (some ⟨g, 0, none⟩) n0 n0) ∧ Sqm w' B g n0 n0 V (farM (edg n0 ps L) n0) ∧ w.heap.size ≤ g ∧ Kept No w w' := by
  have k1 : Kept No w (w.alloc (.cells #[.slice a0 n0 c0, .slice a1 n1 c1, .slice a2 n c] 26)) := (Kept.refl No w).alloc _
  have hn0 := h.nn
  have h1 := h.kept k1 (fun _ _ h => h)
  have cO := onwards_any (a0 := a0) (n0 := n0) (c0 := c0) _ h1.qs h1.cs h1.ds h1.nn h1.ed
  obtain ⟨x0, x1, x2⟩ := three (alloc_new w (.cells #[.slice a0 n0 c0, .slice a1 n1 c1, .slice a2 n c] 26))
  have HH : Hid (Eok (edg n0 ps L) n0 ∧ Kept No w (w.alloc (.cells #[.slice a0 n0 c0, .slice a1 n1 c1, .slice a2 n c] 26))) := ⟨edg_ok _ _ _, k1⟩
  clear h h1 k1
  generalize edg n0 ps L = E at *
  go_enter Tryd.func6, Tryd.ntmps6
  go_upto_region 2 with (go_at_call 11; refine cO.mono ?_; rintro e w1 ⟨gw, G, rfl, hls, hG, k1⟩; have HW : Hid (Ls 1 elW w1 G (some ⟨gw, 0, none⟩) n0 n0 (onw E n0) ∧ Kept No w w1) := ⟨hls, HH.out.2.trans k1 (fun _ h => .inl h)⟩; clear hls hG k1 cO)
  have hmk := mk_rows w1 n0 hn0
  have hg1 := alloc_new w1 (.cells (List.replicate n0 (.slice none 0 0)).toArray 30)
  have k2 : Kept No w1 (w1.alloc (.cells (List.replicate n0 (.slice none 0 0)).toArray 30)) := (Kept.refl No w1).alloc _
  generalize hw2 : w1.alloc (.cells (List.replicate n0 (.slice none 0 0)).toArray 30) = w2 at *
  obtain ⟨g, hg⟩ : ∃ g, w1.heap.size = g := ⟨_, rfl⟩
  rw [hg] at hmk hg1
  have S0 := Sqm.new0 hg1 (fun _ => 0) (farM E n0)
  have HS : Hid (Sqm w2 w2.heap.size g n0 0 (fun _ => 0) (farM E n0) ∧ Kept No w1 w2 ∧ w1.heap.size = g ∧ Kept No w w2) := ⟨S0, k2, hg, HW.out.2.trans k2 (fun _ h => .inl h)⟩
  clear hw2 hg S0 k2 hg1 x0 x1 x2
  go_wp2
  go_loopw [13] (fun y wr => ∃ (j : Nat) (V : Nat → Nat), y = .int .i64 j ∧ j ≤ n0 ∧ Sqm wr w2.heap.size g n0 j V (farM E n0) ∧ Kept No w1 wr ∧ Kept No w wr ∧ w2.heap.size ≤ wr.heap.size) (fun y _ => n0 - (intOf y).toNat)
  case atStart => exact ⟨0, _, rfl, Nat.zero_le _, HS.out.1, HS.out.2.1, HS.out.2.2.2, Nat.le_refl _⟩
  case round =>
    obtain ⟨j, V, rfl, hj, hs, hk, hkw, hsz⟩ := hrel
    by_cases hlt : j < n0
    · have cR := reached_any (i := j) wr (HW.out.1.kept hk (fun _ _ h => h) (elW_kept hk (fun _ _ h => h))) (onw_ok HH.out.1) hn0 hlt
      have HR : Hid (Sqm wr w2.heap.size g n0 j V (farM E n0) ∧ Kept No w1 wr ∧ Kept No w wr ∧ w2.heap.size ≤ wr.heap.size) := ⟨hs, hk, hkw, hsz⟩
      have hjz : (j : Int) < (n0 : Int) := by omega
      clear hs hk hkw hsz
      go_wp2_with (go_at_call 12; refine cR.mono ?_; rintro e w3 ⟨q, rfl, hq1, hq2, k3⟩; have hc3 := (HR.out.1.kept k3 (fun _ _ h => h)).cell hlt; have hf3 := fz_blk (HR.out.1.kept k3 (fun _ _ h => h)).hd j; have HQ : Hid (wr.heap.size ≤ q ∧ Br w3 q (rch (onw E n0) j) ∧ Kept No wr w3) := ⟨hq1, hq2, k3⟩; clear hq1 hq2 k3 cR)
      go_roundw
      case rel =>
        have st := HR.out.1.step hlt HQ.out.2.2 HQ.out.1 HR.out.2.2.2 HQ.out.2.1 (by show (rch _ _).length = _; rw [rch_len, onw_len])
        have k4 : Kept (fun k => k = g) w3 (w3.setCell ⟨g, j, none⟩ (.slice (some ⟨q, 0, none⟩) n0 n0)) := (Kept.refl (fun k => k = g) w3).setCell (p := ⟨g, j, none⟩) (.inl rfl) _
        have hgs := HS.out.2.2.1
        have := HW.out.2.size
        refine ⟨j + 1, _, by go_num, by omega, st, (HR.out.2.1.trans HQ.out.2.2 (fun _ h => .inl h)).trans k4 (fun k e => .inr (by omega)), (HR.out.2.2.1.trans HQ.out.2.2 (fun _ h => .inl h)).trans k4 (fun k e => .inr (by omega)), ?_⟩
        have := HQ.out.2.2.size; have := k4.size; have := HR.out.2.2.2; omega
      case measure => simp [intOf]; omega
    · have hje : j = n0 := by omega
      subst hje
      have HR : Hid (Sqm wr w2.heap.size g j j V (farM E j) ∧ Kept No w wr) := ⟨hs, hkw⟩
      have hjz : ¬ (j : Int) < (j : Int) := by omega
      clear hs hk hkw hsz
      go_wp2
      go_ret
      have := HW.out.2.size
      have := HS.out.2.2.1
      exact ⟨_, g, rfl, ⟨V, HR.out.1⟩, by omega, HR.out.2⟩
end Go.Proofs.YtfhodojbbeniaaaDoor
