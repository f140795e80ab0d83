/-
  'step': Read.
-/
import Derived.Test.YtgapljgnedbkiaaStep
namespace Go.Proofs.Ytgapljgnedbkiaa
open Go.RowKit
set_option linter.unusedVariables false

/-- what Read answers, of any numbers -/
def rdR (xs : List Int) (A N : Int) : List Int := if wi xs.length A N then rdX xs A N else []
theorem read_any (F : Nat → Prop) (A N : Int) (a : Option Addr) (n c : Nat) (xs : List Int) (w : World) (hz : Zs w F a n c xs) (hn : n ≤ 4096) :
    Calls Try.prog 8 #[.slice a n c, .int .i64 A, .int .i64 N] w fun ex w' => ∃ v, ex = .returned (.tuple #[v, .bool (wi xs.length A N)]) ∧ w'.ownsRow w.heap.size 2 1 v (rdR xs A N).length ((rdR xs A N).map iv) ∧ Kept No w w' := by
  unfold rdR
  rw [hz.len]
  cases hk : wi n A N with
  | true =>
    rw [if_pos rfl]
    exact read_yes F A N a n c xs w hz hn hk
  | false =>
    rw [if_neg (by simp)]
    refine (read_no A N a n c w (by omega) hk).mono ?_
    rintro ex w' ⟨rfl, rfl⟩
    exact ⟨_, rfl, World.ownsRow_nil _ _ _ _, Kept.refl _ _⟩
theorem refRead_any (F : Nat → Prop) (A N : Int) (a : Option Addr) (n c : Nat) (xs : List Int) (w : World) (hz : Zs w F a n c xs) (hn : n ≤ 4096) :
    Calls Try.prog 24 #[.slice a n c, .int .i64 A, .int .i64 N] w fun ex w' => ∃ v, ex = .returned (.tuple #[v, .bool (wi xs.length A N)]) ∧ w'.ownsRow w.heap.size 2 1 v (rdR xs A N).length ((rdR xs A N).map iv) ∧ Kept No w w' := by
  unfold rdR
  rw [hz.len]
  cases hk : wi n A N with
  | true =>
    rw [if_pos rfl]
    exact refRead_yes F A N a n c xs w hz hn hk
  | false =>
    rw [if_neg (by simp)]
    refine (refRead_no A N a n c w (by omega) hk).mono ?_
    rintro ex w' ⟨rfl, rfl⟩
    exact ⟨_, rfl, World.ownsRow_nil _ _ _ _, Kept.refl _ _⟩
theorem rdR_length (xs : List Int) (A N : Int) (h : xs.length ≤ 4096) : (rdR xs A N).length ≤ 4096 := by
  unfold rdR
  split
  · simp [rdX]; omega
  · simp
theorem owns_shp {w : World} {B t M : Nat} {v : Value} {ys : List Value} (h : w.ownsRow B t 1 v M ys) : ∃ a c, v = .slice a M c := by
  rcases owns_cells h with ⟨rfl, h0⟩ | ⟨g, cap, rfl, _⟩
  · exact ⟨none, 0, by rw [h0]⟩
  · exact ⟨_, cap, rfl⟩

set_option maxRecDepth 100000 in
set_option maxHeartbeats 4000000 in
theorem step_read (w : World) (B g n cg : Nat) (xs : List Int) (Gx : Nat → Prop) (xa : Option Addr) (xc : Nat) (Gd : Nat → Prop) (da : Option Addr) (dn dc : Nat) (ds : List Int) (Fx A N V : Int) (h : Stp w B g n cg xs Gx xa xc Gd da dn dc ds) :
    Calls Try.prog 17 #[.slice (some ⟨g, 0, none⟩) n cg, .slice xa n xc, .agg #[.int .i64 3, .int .i64 Fx, .int .i64 A, .int .i64 N, .int .i64 V, .slice da dn dc]] w fun ex w' => ex = .returned (.tuple #[.slice xa n xc, .bool true]) ∧ StDid w B g n cg Gx xs xa xc w' := by
  obtain ⟨i0, hi, hz0, hz1, hz2⟩ := info_parts Try.info2
  have k0 : Kept No w (w.alloc (.cells #[.int .i64 3, .int .i64 Fx, .int .i64 A, .int .i64 N, .int .i64 V, .slice da dn dc] 34)) := (Kept.refl No w).alloc _
  have blk := OpBlk.new w ⟨3, Fx, A, N, V, ds⟩ da dn dc
  obtain ⟨e0, e1, e2, e3, e4, e5⟩ := blk.cells
  simp only at e0 e1 e2 e3 e4 e5
  have hb := h.kept k0
  have HB : Hid (Stp (w.alloc (.cells #[.int .i64 3, .int .i64 Fx, .int .i64 A, .int .i64 N, .int .i64 V, .slice da dn dc] 34)) B g n cg xs Gx xa xc Gd da dn dc ds ∧ Kept No w (w.alloc (.cells #[.int .i64 3, .int .i64 Fx, .int .i64 A, .int .i64 N, .int .i64 V, .slice da dn dc] 34)) ∧ OpBlk (w.alloc (.cells #[.int .i64 3, .int .i64 Fx, .int .i64 A, .int .i64 N, .int .i64 V, .slice da dn dc] 34)) w.heap.size ⟨3, Fx, A, N, V, ds⟩ da dn dc) := ⟨hb, k0, blk⟩
  have HH : Hid (Stp w B g n cg xs Gx xa xc Gd da dn dc ds) := h
  have hqg : w.heap.size ≠ g := by
    have := h.mm.lt
    omega
  have HQG : Hid (w.heap.size ≠ g) := hqg
  have hn := h.hn
  have hdd := h.hd
  have c8 := read_any _ A N (some ⟨g, 0, none⟩) n cg xs _ hb.mm.zsg hn
  have hxl := rdR_length xs A N (by have := h.lx; omega)
  obtain ⟨X, hX⟩ : ∃ X, X = rdR xs A N := ⟨_, rfl⟩
  obtain ⟨b, hbb⟩ : ∃ b, b = wi xs.length A N := ⟨_, rfl⟩
  have HX : Hid (X = rdR xs A N ∧ b = wi xs.length A N) := ⟨hX, hbb⟩
  obtain ⟨M, hM⟩ : ∃ M, M = X.length := ⟨_, rfl⟩
  have HM : Hid (X.length = M) := hM.symm
  rw [← hX, ← hbb, ← hM] at c8
  rw [← hX, ← hM] at hxl
  clear h hb k0 blk hqg hX hbb hM
  generalize hW : (w.alloc (.cells #[.int .i64 3, .int .i64 Fx, .int .i64 A, .int .i64 N, .int .i64 V, .slice da dn dc] 34)) = W at *
  go_enter Try.func17, Try.ntmps17
  go_wp2_with (first
    | (go_at_call 8; refine c8.mono ?_; rintro ex w1 ⟨v1, rfl, own1, kp1⟩; obtain ⟨a1, c1, rfl⟩ := owns_shp own1; have c24 := refRead_any _ A N xa n xc xs w1 (HB.out.1.kept kp1).zx hn; rw [← HX.out.1, ← HX.out.2, HM.out] at c24; have H1 : Hid (w1.ownsRow W.heap.size 2 1 (.slice a1 M c1) M (X.map iv) ∧ Kept No W w1) := ⟨own1, kp1⟩; clear own1 kp1 c8 e0 e1 e2 e3 e4 e5; obtain ⟨e0, e1, e2, e3, e4, e5⟩ := (HB.out.2.2.kept H1.out.2 (fun h => h)).cells; simp only at e0 e1 e2 e3 e4 e5)
    | (go_at_call 24; refine c24.mono ?_; rintro ex w2 ⟨v2, rfl, own2, kp2⟩; obtain ⟨a2, c2, rfl⟩ := owns_shp own2; have H2 : Hid (w2.ownsRow W.heap.size 2 1 (.slice a1 M c1) M (X.map iv) ∧ Kept No W w2) := ⟨kp2.owns H1.out.1 (fun _ _ h => h), H1.out.2.trans kp2 (fun k h => h.elim)⟩; have c16 := same_any _ _ a1 a2 M M c1 c2 X X w2 (by have o := H2.out.1; rw [← HM.out] at o ⊢; obtain ⟨a', c', hv, hz⟩ := Zs.of_owns o; injection hv with q1 q2 q3; rw [q1, q3]; exact hz) (by have o := own2; rw [← HM.out] at o ⊢; obtain ⟨a', c', hv, hz⟩ := Zs.of_owns o; injection hv with q1 q2 q3; rw [q1, q3]; exact hz); rw [decide_eq_true rfl] at c16; clear own2 kp2 c24 e0 e1 e2 e3 e4 e5)
    | (go_at_call 16; refine c16.mono ?_; rintro ex w3 ⟨rfl, q3, hw3⟩; have k3 : Kept No w2 w3 := (by rw [hw3]; exact (Kept.refl No w2).drewN q3); have H3 : Hid (w3.ownsRow W.heap.size 2 1 (.slice a1 M c1) M (X.map iv) ∧ Below W.heap.size W w3) := ⟨k3.owns H2.out.1 (fun _ _ h => h), (H2.out.2.trans k3 (fun k h => h.elim)).below0⟩; clear hw3 k3 c16))
  go_loopw [20] (fun i wr => ∃ j : Nat, j ≤ M ∧ i = .int .i64 j ∧ ∃ zs : List Int, zs.length = M ∧ wr.ownsRow W.heap.size 2 1 (.slice a1 M c1) M (zs.map iv) ∧ Below W.heap.size W wr) (fun i _ => M - (intOf i).toNat)
  case atStart => exact ⟨0, by omega, rfl, X, HM.out, H3.out.1, H3.out.2⟩
  case round =>
    obtain ⟨j, hj, rfl, zs, hzl, hoz, hbz⟩ := hrel
    have HR : Hid (zs.length = M ∧ wr.ownsRow W.heap.size 2 1 (.slice a1 M c1) M (zs.map iv) ∧ Below W.heap.size W wr) := ⟨hzl, hoz, hbz⟩
    by_cases hlt : j < M
    · obtain ⟨b1, hb1, hb1lt⟩ : ∃ b1, a1 = some ⟨b1, 0, none⟩ ∧ W.heap.size ≤ b1 := by
        rcases owns_cells hoz with ⟨_, h0⟩ | ⟨b1, cap, hv, hb, _⟩
        · omega
        · injection hv with q1 _ _; exact ⟨b1, q1, hb⟩
      subst hb1
      obtain ⟨hc, hf⟩ := owns_ati hoz (g := b1) rfl (i := j) (by omega)
      have hst := owns_seti hoz (g := b1) rfl (i := j) (by omega) 77
      have HS : Hid ((wr.setCell ⟨b1, j, none⟩ (.int .i64 77)).ownsRow W.heap.size 2 1 (.slice (some ⟨b1, 0, none⟩) M c1) M ((zs.set j 77).map iv)) := hst
      obtain ⟨z, hz⟩ : ∃ z, z = zs.getD j 0 := ⟨_, rfl⟩
      rw [← hz] at hc
      unfold iv at hc
      have HBL : Hid (W.heap.size ≤ b1) := hb1lt
      clear hoz hbz hst hz hzl hb1lt
      go_wp2
      go_roundw
      case rel => exact ⟨j + 1, by omega, by go_num, zs.set j 77, by rw [List.length_set]; exact HR.out.1, HS.out, HR.out.2.2.setCell (p := ⟨b1, j, none⟩) HBL.out _⟩
      case measure => simp [intOf]; omega
    · have hjM : j = M := by omega
      subst hjM
      clear hzl hoz hbz
      go_wp2
      go_loopw [21, 22] (fun l i wx => ∃ q : Nat, q ≤ 64 ∧ i = .int .i64 q ∧ ∃ ys : List Int, wx.ownsRow W.heap.size 2 1 l (j + q) (ys.map iv) ∧ Below W.heap.size W wx) (fun _ i _ => 64 - (intOf i).toNat)
      case atStart => exact ⟨0, by omega, rfl, zs, HR.out.2.1, HR.out.2.2⟩
      case round =>
        clear HR
        obtain ⟨q, hq, rfl, ys, hoy, hby⟩ := hrel
        have HOW : Hid (wr.ownsRow W.heap.size 2 1 u21 (j + q) (ys.map iv)) := hoy
        have hs := hby.size
        have HBE : Hid (Below W.heap.size W wr) := hby
        by_cases hq64 : q < 64
        · clear hoy hby
          go_wp2_with (at_builtin; refine wpList_append_own _ rfl _ _ 22 rfl W.heap.size 2 i0 (.int .i64 0) 1 8 Try.underlying22 hi hz0 hz1 hz2 rfl (by decide) _ _ _ rfl (HOW.out.alloc _) ⟨wr.heap.size, 0, none⟩ 1 1 [.int .i64 78] rfl rfl (cell_one_new _ _ _) (one_one _ _) (by unfold maxLen; omega) (by omega) (by simp; omega) ?_; intro v9 w9 own9 grow9 _)
          have HN : Hid (w9.ownsRow W.heap.size 2 1 v9 (j + (q + 1)) ((ys ++ [78]).map iv) ∧ Below W.heap.size W w9) := ⟨by rw [List.map_append]; exact own9, (HBE.out.alloc hs _).grown grow9 (by simp; omega) (fun k hk => (HOW.out.lt k hk).1)⟩
          clear own9 grow9
          go_wp2
          go_roundw
          case rel => exact ⟨q + 1, by omega, by go_num, _, HN.out.1, HN.out.2⟩
          case measure => simp [intOf]; omega
        · obtain ⟨a9, c9, rfl⟩ := owns_shp hoy
          have hq6 : q = 64 := by omega
          subst hq6
          clear hoy hby
          have e64 : wrap64 ((j : Int) + 64) = ((j + 64 : Nat) : Int) := by unfold wrap64; omega
          go_wp2
          go_ret2
          refine ⟨by simp, HH.out.same (HB.out.2.1.trans (Kept.of_below (F := No) HBE.out) (fun k h => h.elim))⟩

end Go.Proofs.Ytgapljgnedbkiaa
