/-
  'fitted': an operation that a Writer must take.
-/
import Derived.Test.YtakdfpenpodplaaAgainWalk
import Derived.Laws.ResultCell
namespace Go.Proofs.Ytakdfpenpodplaa
open Go.RowKit
set_option linter.unusedVariables false

theorem and255 (x : Int) : bits .and .i64 x 255 = x % 256 := by
  have h : bits .and .i64 x 255 = IntKind.i64.wrap (((x % 18446744073709551616).toNat &&& 255 : Nat) : Int) := by
    show IntKind.i64.wrap (((BitVec.ofInt 64 x &&& BitVec.ofInt 64 255).toNat : Nat) : Int) = _
    rw [BitVec.toNat_and, BitVec.toNat_ofInt, BitVec.toNat_ofInt]; rfl
  rw [h, show (x % 18446744073709551616).toNat &&& 255 = (x % 18446744073709551616).toNat % 256 from Nat.and_two_pow_sub_one_eq_mod _ 8, IntKind.wrap_i64]
  omega
theorem and65535 (x : Int) : bits .and .i64 x 65535 = x % 65536 := by
  have h : bits .and .i64 x 65535 = IntKind.i64.wrap (((x % 18446744073709551616).toNat &&& 65535 : Nat) : Int) := by
    show IntKind.i64.wrap (((BitVec.ofInt 64 x &&& BitVec.ofInt 64 65535).toNat : Nat) : Int) = _
    rw [BitVec.toNat_and, BitVec.toNat_ofInt, BitVec.toNat_ofInt]; rfl
  rw [h, show (x % 18446744073709551616).toNat &&& 65535 = (x % 18446744073709551616).toNat % 65536 from Nat.and_two_pow_sub_one_eq_mod _ 16, IntKind.wrap_i64]
  omega
theorem and32 (x : Int) : bits .and .i64 x 4294967295 = x % 4294967296 := by
  have h : bits .and .i64 x 4294967295 = IntKind.i64.wrap (((x % 18446744073709551616).toNat &&& 4294967295 : Nat) : Int) := by
    show IntKind.i64.wrap (((BitVec.ofInt 64 x &&& BitVec.ofInt 64 4294967295).toNat : Nat) : Int) = _
    rw [BitVec.toNat_and, BitVec.toNat_ofInt, BitVec.toNat_ofInt]; rfl
  rw [h, show (x % 18446744073709551616).toNat &&& 4294967295 = (x % 18446744073709551616).toNat % 4294967296 from Nat.and_two_pow_sub_one_eq_mod _ 32, IntKind.wrap_i64]
  omega
theorem and7 (x : Int) : bits .and .i64 x 7 = x % 8 := by
  have h : bits .and .i64 x 7 = IntKind.i64.wrap (((x % 18446744073709551616).toNat &&& 7 : Nat) : Int) := by
    show IntKind.i64.wrap (((BitVec.ofInt 64 x &&& BitVec.ofInt 64 7).toNat : Nat) : Int) = _
    rw [BitVec.toNat_and, BitVec.toNat_ofInt, BitVec.toNat_ofInt]; rfl
  rw [h, show (x % 18446744073709551616).toNat &&& 7 = (x % 18446744073709551616).toNat % 8 from Nat.and_two_pow_sub_one_eq_mod _ 3, IntKind.wrap_i64]
  omega

def fitN (K N : Int) : Int := if K = 1 then N % 256 else if K = 2 then N % 65536 else if K = 3 then N % 4294967296 else N
def fitZ (zs : List Int) : List Int := zs.map (· % 65536)
def fitM (K M : Int) (zs : List Int) : Int := if K = 7 then zs.length + M % 8 else M

/-- the stores at the end -/
abbrev nine (wr : World) (q : Nat) (N Wd : Int) (Fl : Bool) (b l : Value) (M : Int) : World :=
  (((((((((wr.setCell ⟨q, 5, none⟩ l).setCell ⟨q, 6, none⟩ (.int .i64 M)).setCell ⟨q + 1, 0, none⟩ (.int .i64 7)).setCell ⟨q + 1, 1, none⟩ (.int .i64 N)).setCell ⟨q + 1, 2, none⟩ (.int .i64 Wd)).setCell ⟨q + 1, 3, none⟩ (.bool Fl)).setCell ⟨q + 1, 4, none⟩ b).setCell ⟨q + 1, 5, none⟩ l).setCell ⟨q + 1, 6, none⟩ (.int .i64 M))
theorem nine_kept (wr : World) (q : Nat) (N Wd : Int) (Fl : Bool) (b l : Value) (M : Int) : Kept (fun k => k = q ∨ k = q + 1) wr (nine wr q N Wd Fl b l M) :=
  (((((((((Kept.refl (fun k => k = q ∨ k = q + 1) wr).setCell (p := ⟨q, 5, none⟩) (.inl (.inl rfl)) _).setCell (p := ⟨q, 6, none⟩) (.inl (.inl rfl)) _).setCell (p := ⟨q + 1, 0, none⟩) (.inl (.inr rfl)) _).setCell (p := ⟨q + 1, 1, none⟩) (.inl (.inr rfl)) _).setCell (p := ⟨q + 1, 2, none⟩) (.inl (.inr rfl)) _).setCell (p := ⟨q + 1, 3, none⟩) (.inl (.inr rfl)) _).setCell (p := ⟨q + 1, 4, none⟩) (.inl (.inr rfl)) _).setCell (p := ⟨q + 1, 5, none⟩) (.inl (.inr rfl)) _).setCell (p := ⟨q + 1, 6, none⟩) (.inl (.inr rfl)) _
theorem nine_at (wr : World) (q : Nat) (N Wd : Int) (Fl : Bool) (b l : Value) (M : Int) (h : OpBlk wr (q + 1) 0 0 0 false none 0 0 none 0 0 0) :
    (nine wr q N Wd Fl b l M).heap[q + 1]? = some (.cells #[.int .i64 7, .int .i64 N, .int .i64 Wd, .bool Fl, b, l, .int .i64 M] 43 (0, 0)) := by
  unfold OpBlk at h
  simp [World.setCell, Array.getElem?_modify, h]

set_option maxHeartbeats 2000000 in
theorem fitted_any (G : Nat → Prop) (K N Wd : Int) (Fl : Bool) (ba : Option Addr) (bn bc : Nat) (la : Option Addr) (ln lc : Nat) (M : Int) (zs : List Int) (w : World) (hZ : Zs w G la ln lc zs) (hln : ln ≤ 1048576) :
    Calls Try.prog 35 #[opV K N Wd Fl ba bn bc la ln lc M] w fun ex w' => ∃ la' ln' lc', ex = .returned (opV K (fitN K N) Wd Fl ba bn bc la' ln' lc' (fitM K M zs)) ∧ Below w.heap.size w w' ∧
      (K = 7 → ∃ G', Zs w' G' la' ln' lc' (fitZ zs) ∧ (∀ k, G' k → w.heap.size ≤ k ∧ k < w'.heap.size) ∧ ln' = ln) := by
  unfold opV
  by_cases h1 : K = 1
  · subst h1
    have e1 := and255 N
    rw [show fitN 1 N = N % 256 from rfl, show fitM 1 M zs = M from rfl]
    clear hZ
    go_enter Try.func35, Try.ntmps35
    go_wp2
    refine bodyPost_ret (results_cell_row rfl _ _ (w.heap.size + 1) 43 _ (0, 0) _ rfl (heap_alloc2_new _ _ _) Try.underlying43 rfl (by kernel_rfl)) rfl ?_
    exact ⟨la, ln, lc, rfl, ((Below.refl _ w).alloc (Nat.le_refl _) _).alloc (by simp) _, fun h => absurd h (by decide)⟩
  by_cases h2 : K = 2
  · subst h2
    have e1 := and65535 N
    rw [show fitN 2 N = N % 65536 from rfl, show fitM 2 M zs = M from rfl]
    clear hZ
    go_enter Try.func35, Try.ntmps35
    go_wp2
    refine bodyPost_ret (results_cell_row rfl _ _ (w.heap.size + 1) 43 _ (0, 0) _ rfl (heap_alloc2_new _ _ _) Try.underlying43 rfl (by kernel_rfl)) rfl ?_
    exact ⟨la, ln, lc, rfl, ((Below.refl _ w).alloc (Nat.le_refl _) _).alloc (by simp) _, fun h => absurd h (by decide)⟩
  by_cases h3 : K = 3
  · subst h3
    have e1 := and32 N
    rw [show fitN 3 N = N % 4294967296 from rfl, show fitM 3 M zs = M from rfl]
    clear hZ
    go_enter Try.func35, Try.ntmps35
    go_wp2
    refine bodyPost_ret (results_cell_row rfl _ _ (w.heap.size + 1) 43 _ (0, 0) _ rfl (heap_alloc2_new _ _ _) Try.underlying43 rfl (by kernel_rfl)) rfl ?_
    exact ⟨la, ln, lc, rfl, ((Below.refl _ w).alloc (Nat.le_refl _) _).alloc (by simp) _, fun h => absurd h (by decide)⟩
  by_cases h7 : K = 7
  · subst h7
    rw [show fitN 7 N = N from rfl, show fitM 7 M zs = zs.length + M % 8 from rfl]
    obtain ⟨i0, hi, hz0, hz1, hz2⟩ := info_parts Try.info3
    have e7 := and7 M
    have hl := hZ.len
    have hcap := hZ.cap
    have HZ : Hid (Zs w G la ln lc zs) := hZ
    clear hZ h1 h2 h3
    go_enter Try.func35, Try.ntmps35
    go_upto_region 10 with fail
    have hb1 : OpBlk (((w.alloc (.cells #[.int .i64 7, .int .i64 N, .int .i64 Wd, .bool Fl, .slice ba bn bc, .slice la ln lc, .int .i64 M] 43)).alloc (.cells #[.int .i64 0, .int .i64 0, .int .i64 0, .bool false, .slice none 0 0, .slice none 0 0, .int .i64 0] 43))) w.heap.size 7 N Wd Fl ba bn bc la ln lc M := heap_alloc2_old _ _ _
    have hb2 : OpBlk (((w.alloc (.cells #[.int .i64 7, .int .i64 N, .int .i64 Wd, .bool Fl, .slice ba bn bc, .slice la ln lc, .int .i64 M] 43)).alloc (.cells #[.int .i64 0, .int .i64 0, .int .i64 0, .bool false, .slice none 0 0, .slice none 0 0, .int .i64 0] 43))) (w.heap.size + 1) 0 0 0 false none 0 0 none 0 0 0 := heap_alloc2_new _ _ _
    have hbw : Below w.heap.size w (((w.alloc (.cells #[.int .i64 7, .int .i64 N, .int .i64 Wd, .bool Fl, .slice ba bn bc, .slice la ln lc, .int .i64 M] 43)).alloc (.cells #[.int .i64 0, .int .i64 0, .int .i64 0, .bool false, .slice none 0 0, .slice none 0 0, .int .i64 0] 43))) := ((Below.refl _ w).alloc (Nat.le_refl _) _).alloc (by simp) _
    have hsz : (((w.alloc (.cells #[.int .i64 7, .int .i64 N, .int .i64 Wd, .bool Fl, .slice ba bn bc, .slice la ln lc, .int .i64 M] 43)).alloc (.cells #[.int .i64 0, .int .i64 0, .int .i64 0, .bool false, .slice none 0 0, .slice none 0 0, .int .i64 0] 43))).heap.size = w.heap.size + 2 := by simp
    obtain ⟨W2, hW2⟩ : ∃ W2, W2 = (((w.alloc (.cells #[.int .i64 7, .int .i64 N, .int .i64 Wd, .bool Fl, .slice ba bn bc, .slice la ln lc, .int .i64 M] 43)).alloc (.cells #[.int .i64 0, .int .i64 0, .int .i64 0, .bool false, .slice none 0 0, .slice none 0 0, .int .i64 0] 43))) := ⟨_, rfl⟩
    rw [← hW2] at hb1 hb2 hbw hsz ⊢
    obtain ⟨q, hq⟩ : ∃ q, q = w.heap.size := ⟨_, rfl⟩
    rw [← hq] at hb1 hb2 hsz ⊢
    have HB1 : Hid (OpBlk W2 q 7 N Wd Fl ba bn bc la ln lc M) := hb1
    have HB2 : Hid (OpBlk W2 (q + 1) 0 0 0 false none 0 0 none 0 0 0) := hb2
    have HBW : Hid (Below w.heap.size w W2) := hbw
    have HQ : Hid (q = w.heap.size) := hq
    have HSZ : Hid (W2.heap.size = q + 2) := hsz
    clear hb1 hb2 hbw hW2 hq hsz
    go_wp2
    go_loopw [3, 4] (fun l i wr => ∃ k : Nat, k ≤ ln ∧ i = .int .i64 k ∧ wr.ownsRow W2.heap.size 3 1 l k ((fitZ (zs.take k)).map iv) ∧ Below W2.heap.size W2 wr) (fun _ i _ => ln - (intOf i).toNat)
    case atStart => exact ⟨0, by omega, rfl, World.ownsRow_nil _ _ _ _, Below.refl _ _⟩
    case round =>
      obtain ⟨k, hk, rfl, hown, hbel⟩ := hrel
      have hblk1 : OpBlk wr q 7 N Wd Fl ba bn bc la ln lc M := (hbel.block q (by rw [HSZ.out]; omega)).trans HB1.out
      have hblk2 : OpBlk wr (q + 1) 0 0 0 false none 0 0 none 0 0 0 := (hbel.block (q + 1) (by rw [HSZ.out]; omega)).trans HB2.out
      obtain ⟨p0, p1, p2, p3, p4, p5, p6⟩ := hblk1.at'
      have HOW : Hid (wr.ownsRow W2.heap.size 3 1 u3 k ((fitZ (zs.take k)).map iv)) := hown
      have HBEL : Hid (Below W2.heap.size W2 wr) := hbel
      have hszr := hbel.size
      by_cases hlt : k < ln
      · have bw : Below w.heap.size w wr := HBW.out.trans (hbel.mono (by rw [HSZ.out, HQ.out]; omega))
        obtain ⟨b, o, rfl, _, hc0⟩ := HZ.out.at' k hlt
        obtain ⟨z, hz⟩ : ∃ z, z = zs.getD k 0 := ⟨_, rfl⟩
        have hcz : wr.cell? ⟨b, o + k, none⟩ = some (.int .i64 z) := by rw [hz]; exact (bw.cell (cell_lt hc0)).trans hc0
        have e8 := and65535 z
        have hkz : k < zs.length := by omega
        have HST : Hid (fitZ (zs.take (k + 1)) = fitZ (zs.take k) ++ [z % 65536]) := by
          show fitZ (zs.take (k + 1)) = fitZ (zs.take k) ++ [z % 65536]
          unfold fitZ
          rw [List.take_add_one, List.getElem?_eq_getElem hkz, List.map_append, hz]
          simp [List.getD, hkz]
        clear hown hbel hblk1 hblk2 hc0 hz bw
        go_wp2_with (at_builtin; refine wpList_append_own _ rfl _ _ 41 rfl W2.heap.size 3 i0 (.int .i64 0) 1 8 Try.underlying41 hi hz0 hz1 hz2 rfl (by decide) _ _ _ rfl (HOW.out.alloc _) ⟨wr.heap.size, 0, none⟩ 1 1 [.int .i64 (z % 65536)] rfl rfl (cell_one_new _ _ _) (one_one _ _) (by unfold maxLen; omega) (by omega) (by simp; omega) ?_; intro v3 w3 own3 grow3 _)
        have bel3 : Below W2.heap.size W2 w3 := (HBEL.out.alloc hszr _).grown grow3 (by simp; omega) (fun j hj => (HOW.out.lt j hj).1)
        have own4 : w3.ownsRow W2.heap.size 3 1 v3 (k + 1) ((fitZ (zs.take (k + 1))).map iv) := by rw [HST.out, List.map_append]; exact own3
        clear grow3 own3 p0 p1 p2 p3 p4 p5 p6
        go_wp2
        go_roundw
        case rel => exact ⟨k + 1, by omega, by go_num, own4, bel3⟩
        case measure => simp [intOf]; omega
      · have hkl : k = ln := by omega
        subst hkl
        have hfz : fitZ (zs.take k) = fitZ zs := by rw [List.take_of_length_le (by omega)]
        rw [hfz] at hown HOW
        have hfl : (fitZ zs).length = k := by unfold fitZ; rw [List.length_map]; exact hl
        obtain ⟨la2, lc2, hv2, hZ2⟩ := Zs.of_owns (w := wr) (base := W2.heap.size) (e := 3) (v := u3) (xs := fitZ zs) (by rw [hfl]; exact hown)
        rw [hfl] at hv2 hZ2
        subst hv2
        have f5 := hblk1.fz 5
        have f6 := hblk1.fz 6
        have g0 := hblk2.fz 0
        have g1 := hblk2.fz 1
        have g2 := hblk2.fz 2
        have g3 := hblk2.fz 3
        have g4 := hblk2.fz 4
        have g5 := hblk2.fz 5
        have g6 := hblk2.fz 6
        obtain ⟨s0, s1, s2, s3, s4, s5, s6⟩ := hblk2.at'
        have HK2 : Hid (OpBlk wr (q + 1) 0 0 0 false none 0 0 none 0 0 0) := hblk2
        have HZ2 : Hid (Zs wr (fun g => (Value.slice la2 k lc2).ownBlock = some g) la2 k lc2 (fitZ zs)) := hZ2
        have hM8 : 0 ≤ M % 8 ∧ M % 8 < 8 := by omega
        obtain ⟨hM1, hM2⟩ := hM8
        clear hown hbel hblk1 hblk2 hZ2 hfz
        go_wp2
        refine bodyPost_ret (results_cell_row rfl _ _ (q + 1) 43 _ (0, 0) _ rfl (nine_at wr q N Wd Fl (.slice ba bn bc) (.slice la2 k lc2) (k + M % 8) HK2.out) Try.underlying43 rfl (by kernel_rfl)) rfl ?_
        have kp := nine_kept wr q N Wd Fl (.slice ba bn bc) (.slice la2 k lc2) (k + M % 8)
        have hown2 : ∀ g, (Value.slice la2 k lc2).ownBlock = some g → q + 2 ≤ g ∧ g < wr.heap.size := fun g hg => by have := HOW.out.lt g hg; rw [HSZ.out] at this; exact this
        refine ⟨la2, k, lc2, by rw [hl], ?_, fun _ => ⟨_, HZ2.out.kept kp (fun g hg e => by have := hown2 g hg; omega), fun g hg => ?_, rfl⟩⟩
        · refine (HBW.out.trans (HBEL.out.mono (by rw [HSZ.out, HQ.out]; omega))).trans (kp.below (fun j hj => ?_) ?_)
          · rw [← HQ.out]; omega
          · rw [← HQ.out]; rw [HSZ.out] at hszr; omega
        · have h1 := hown2 g hg
          have h2 := kp.size
          rw [← HQ.out]
          exact ⟨by omega, Nat.lt_of_lt_of_le h1.2 h2⟩
  · have q1 : (K == 1) = false := by simpa using h1
    have q2 : (K == 2) = false := by simpa using h2
    have q3 : (K == 3) = false := by simpa using h3
    have q7 : (K == 7) = false := by simpa using h7
    have e1 : fitN K N = N := by unfold fitN; rw [if_neg h1, if_neg h2, if_neg h3]
    have e2 : fitM K M zs = M := by unfold fitM; rw [if_neg h7]
    rw [e1, e2]
    have H7 : Hid (K ≠ 7) := h7
    clear hZ e1 e2 h1 h2 h3 h7
    go_enter Try.func35, Try.ntmps35
    go_wp2
    refine bodyPost_ret (results_cell_row rfl _ _ (w.heap.size + 1) 43 _ (0, 0) _ rfl (heap_alloc2_new _ _ _) Try.underlying43 rfl (by kernel_rfl)) rfl ?_
    exact ⟨la, ln, lc, rfl, ((Below.refl _ w).alloc (Nat.le_refl _) _).alloc (by simp) _, fun h => absurd h H7.out⟩

end Go.Proofs.Ytakdfpenpodplaa
