/-
  One text: YPrt, YLen, YDec, YMine.
-/
import Derived.Test.YtkmpgcgdamcikaaGreatDoorGDec
import Derived.Test.YtkmpgcgdamcikaaGreatDoorGRef
import Derived.Test.YtkmpgcgdamcikaaGreatDoorGLen
import Derived.Deep.QuietTactic
import Derived.BigQuiet
import Derived.Test.YtkmpgcgdamcikaaGreatDoorGMk
import Derived.Test.YtkmpgcgdamcikaaGreatDoorSLives
namespace Go.Proofs.YtkmpgcgdamcikaaGreatDoor
open Go.RowKit Go.Shelf Plain
set_option linter.unusedVariables false
set_option maxRecDepth 100000

set_option maxHeartbeats 4000000 in
theorem rpart_any {F : Nat → Prop} {p n : Nat} {xs : List Nat} (w : World) (h : Il w F p xs 0) (hF : ∀ k, F k → k < w.heap.size) (hn : 5 * n ≤ xs.length) (hx : xs.length ≤ 4194316) :
    Calls Tryz.prog 21 #[.pointer (some ⟨p, 0, none⟩), .int .i64 n] w fun e w' => ∃ v, e = .returned v ∧ Ow w' w.heap.size v (gpL xs n) ∧ Il w' F p (xs.drop (5 * n)) 0 ∧ Kept (fun j => j = p) w w' := by
  obtain ⟨i0, hi, hz0, hz1, hz2⟩ := info_parts Tryz.infoSo
  have HR : Hid (Il w F p xs 0 ∧ (∀ k, F k → k < w.heap.size)) := ⟨h, hF⟩
  have hpl : p < w.heap.size := by obtain ⟨a, n, c, bs, m, hv, _⟩ := h; exact hv.plt
  clear h hF
  go_enter Tryz.func21, Tryz.ntmps21
  go_wp2
  go_loopw [5, 6] (fun v x wr => ∃ k : Nat, x = .int .i64 k ∧ k ≤ n ∧ Il wr F p (xs.drop (5 * k)) 0 ∧ Ow wr w.heap.size v (gpL xs k) ∧ Kept (fun j => j = p) w wr) (fun _ x _ => n - (intOf x).toNat)
  case atStart => exact ⟨0, rfl, Nat.zero_le _, HR.out.1, ⟨rfl, .inl ⟨rfl, rfl⟩⟩, Kept.refl _ _⟩
  case round =>
    obtain ⟨k, rfl, hk, hrd, how, hkr⟩ := hrel
    by_cases hlt : k < n
    · have hltz : (k : Int) < (n : Int) := by omega
      have hl1 : 4 ≤ (xs.drop (5 * k)).length := by rw [List.length_drop]; omega
      have c1 := inU32_any F p _ 0 wr hrd
      obtain ⟨t1, t2, t3⟩ := tk4 hl1
      have hN : rdN (xs.drop (5 * k)) 0 4 = ((gp xs k).1 : Nat) := t1
      rw [t2, t3, hN] at c1
      have hb1 : ((gp xs k).1 : Int) < 4294967296 := by
        have := rdN_lt 0 4 hrd.lt
        rw [hN] at this
        omega
      have HO : Hid (Ow wr w.heap.size u5 (gpL xs k) ∧ Kept (fun j => j = p) w wr) := ⟨how, hkr⟩
      clear hrd how hkr t1 t2 t3 hN
      have hd4 : (xs.drop (5 * k)).drop 4 = xs.drop (5 * k + 4) := by rw [List.drop_drop]
      rw [hd4] at c1
      go_upto_region 6 with (go_at_call 20; refine c1.mono ?_; rintro e w1 ⟨rfl, hd1⟩; clear c1)
      have hl2 : 1 ≤ (xs.drop (5 * k + 4)).length := by rw [List.length_drop]; omega
      have c2 := inU8_any F p _ 0 w1 hd1.1
      obtain ⟨t1, t2, t3⟩ := tk1 hl2
      have hN : rdN (xs.drop (5 * k + 4)) 0 1 = ((gp xs k).2 : Nat) := t1
      rw [t2, t3, hN] at c2
      have hb2 : ((gp xs k).2 : Int) < 256 := by
        have := rdN_lt 0 1 hd1.1.lt
        rw [hN] at this
        omega
      have hd5 : (xs.drop (5 * k + 4)).drop 1 = xs.drop (5 * (k + 1)) := by rw [List.drop_drop]; rfl
      rw [hd5] at c2
      have HG : Hid (gpL xs (k + 1) = gpL xs k ++ [((gp xs k).1, (gp xs k).2)]) := gpL_succ xs k
      have hlen := gpL_len xs k
      have H1 : Hid (Ow w1 w.heap.size u5 (gpL xs k) ∧ Kept (fun j => j = p) w w1) := ⟨hd1.2.1.owns HO.out.1 (fun b e e' => by have := (HO.out.1.lt b e).1; omega), HO.out.2.trans hd1.2.1 (fun _ h => .inl h)⟩
      clear t1 t2 t3 hN hd1 HO hd4 hd5
      generalize (gp xs k).1 = y1 at *
      generalize (gp xs k).2 = y2 at *
      generalize gpL xs k = Z at *
      go_wp2_with (first
        | (go_at_call 40; refine c2.mono ?_; rintro e w2 ⟨rfl, hd2⟩; have H2 : Hid (Ow w2 w.heap.size u5 Z ∧ Kept (fun j => j = p) w w2 ∧ Il w2 F p (xs.drop (5 * (k + 1))) 0) := ⟨hd2.2.1.owns H1.out.1 (fun b e e' => by have := (H1.out.1.lt b e).1; omega), H1.out.2.trans hd2.2.1 (fun _ h => .inl h), hd2.1⟩; clear hd2 c2 H1)
        | (at_builtin; refine wpList_append_own_at _ rfl _ _ 23 rfl w.heap.size 62 i0 (.agg #[.int .i64 0, .int .i64 0]) 2 16 Tryz.underlying23 hi hz0 hz1 hz2 rfl (by decide) _ _ _ rfl (H2.out.1.alloc _) ⟨w2.heap.size, 0, none⟩ 1 1 (slL [(y1, y2)]) rfl rfl (cell_two w2 y1 y2 _) (slL_one _) (by unfold maxLen; omega) (by omega) (by have := H2.out.2.1.size; rw [World.size_alloc]; omega) ?_; intro v9 w10 own10 grow10 _ at10))
      have HN : Hid (Il w10 F p (xs.drop (5 * (k + 1))) 0 ∧ Ow w10 w.heap.size v9 (gpL xs (k + 1)) ∧ Kept (fun j => j = p) w w10) := by
        have kg : Kept (fun b => w.heap.size ≤ b) w2 w10 := ((Kept.refl _ w2).alloc _).grown grow10 (fun b e => .inl (H2.out.1.lt b e).1)
        refine ⟨H2.out.2.2.kept kg (fun b h1 h2 => by have := HR.out.2 b h1; omega), ?_, H2.out.2.1.trans kg (fun b h => .inr h)⟩
        unfold Ow
        rw [HG.out, slL_app, List.length_append]
        exact own10
      clear own10 grow10 at10
      go_wp2
      go_roundw
      case rel => exact ⟨k + 1, by go_num, by omega, HN.out⟩
      case measure => simp [intOf]; omega
    · have hltz : ¬ (k : Int) < (n : Int) := by omega
      obtain rfl : k = n := by omega
      have H1 : Hid (Ow wr w.heap.size u5 (gpL xs k) ∧ Il wr F p (xs.drop (5 * k)) 0 ∧ Kept (fun j => j = p) w wr) := ⟨how, hrd, hkr⟩
      clear hk how hrd hkr
      go_wp2
      go_ret
      exact ⟨_, rfl, H1.out⟩
end Go.Proofs.YtkmpgcgdamcikaaGreatDoor

namespace Go.Proofs.YtkmpgcgdamcikaaGreatDoor
open Go.RowKit Go.Shelf
set_option linter.unusedVariables false
set_option maxRecDepth 100000

def I9 (x : Int) : Prop := -9223372036854775808 ≤ x ∧ x ≤ 9223372036854775807
def rlV (L : List (Int × Int)) : Int := if Slt.Goes L then Slt.pr L L.length else -1
theorem rlV_no {L : List (Int × Int)} {q : Nat} (hq : q < L.length) (h : ¬ Slt.Ok L q) : rlV L = -1 := if_neg (fun g => h (g q hq))

set_option maxHeartbeats 16000000 in
theorem rlength_any {F : Nat → Prop} {a : Option Addr} {n c : Nat} {L : List (Int × Int)} (w : World) (h : Sl w F a n c L) (hF : ∀ k, F k → k < w.heap.size) (h6 : ∀ i, i < n → I9 (Slt.gt L i).1 ∧ I9 (Slt.gt L i).2) :
    Calls Tryz.prog 41 #[.slice a n c] w fun e w' => e = .returned (.int .i64 (rlV L)) ∧ Kept No w w' := by
  have HS : Hid (Sl w F a n c L ∧ (∀ k, F k → k < w.heap.size) ∧ (∀ i, i < n → I9 (Slt.gt L i).1 ∧ I9 (Slt.gt L i).2)) := ⟨h, hF, h6⟩
  have hcap := h.cap
  have hmax := h.max
  have hln := h.len
  have HL : Hid (L.length = n) := hln
  clear h hF h6 hln
  go_enter Tryz.func41, Tryz.ntmps41
  go_wp2
  go_loopw [3, 4] (fun x y wr => ∃ q : Nat, x = .int .i64 (Slt.pr L q) ∧ y = .int .i64 q ∧ q ≤ n ∧ (∀ i, i < q → Slt.Ok L i) ∧ Kept No w wr) (fun _ y _ => n - (intOf y).toNat)
  case atStart => exact ⟨0, rfl, rfl, Nat.zero_le _, fun i hi => by omega, Kept.refl _ _⟩
  case round =>
    obtain ⟨q, rfl, rfl, hq, hoks, hk⟩ := hrel
    by_cases hlt : q < n
    · have hlt' : (q : Int) < n := by omega
      have hqL : q < L.length := by rw [HL.out]; exact hlt
      obtain ⟨hb0, hb1⟩ := Slt.pr_bd (q := q) (Nat.le_of_lt hqL) hoks
      obtain ⟨b, o, rfl, hFb, c0, c1⟩ := (HS.out.1.keep hk).gt hlt
      obtain ⟨⟨i1, i2⟩, i3, i4⟩ := HS.out.2.2 q hlt
      have hbl : b < wr.heap.size := Nat.lt_of_lt_of_le (HS.out.2.1 b hFb) hk.size
      have HPS : Hid (Slt.pr L (q + 1) = Slt.pr L q + (Slt.gt L q).1) := Slt.pr_succ hqL
      have HOK : Hid ((∀ i, i < q → Slt.Ok L i) ∧ (¬ Slt.Ok L q → rlV L = -1) ∧ (Slt.Ok L q ↔ (1 ≤ (Slt.gt L q).1 ∧ (Slt.gt L q).1 ≤ 1048576 - Slt.pr L q ∧ 0 ≤ (Slt.gt L q).2 ∧ (Slt.gt L q).2 ≤ 32 ∧ (Slt.gt L q).2 ≠ Slt.nb L q)) ∧ Kept No w wr) := ⟨hoks, rlV_no hqL, Iff.rfl, hk⟩
      have hprev : 0 < q → ∃ y : Int, Slt.nb L q = y ∧ wr.cell? ⟨b, o + (q - 1) * 2 + 1, none⟩ = some (.int .i64 y) := fun h0 => by
        obtain ⟨b', o', e, _, _, c1'⟩ := (HS.out.1.keep hk).gt (i := q - 1) (by omega)
        injection e with e; injection e with e1 e2; subst e1 e2
        refine ⟨_, ?_, c1'⟩
        unfold Slt.nb
        rw [if_neg (by omega)]
      have hn0 : q = 0 → Slt.nb L q = -1 := fun e => by rw [e]; rfl
      clear hoks hk hFb hq
      generalize Slt.pr L q = A at *
      generalize (Slt.gt L q).1 = x1 at *
      generalize (Slt.gt L q).2 = x2 at *
      generalize Slt.nb L q = y0 at *
      have ka : Kept No wr (wr.alloc (.cells #[.int .i64 x1, .int .i64 x2] 62)) := (Kept.refl No wr).alloc _
      have HK2 : Hid (Kept No w (wr.alloc (.cells #[.int .i64 x1, .int .i64 x2] 62))) := HOK.out.2.2.2.trans ka (fun _ h => h.elim)
      obtain ⟨d0, d1⟩ := bx2 (World.alloc_heap_new wr (.cells #[.int .i64 x1, .int .i64 x2] 62))
      go_upto_region 6 with fail
      by_cases g1 : x1 < 1
      · have g1' : decide (x1 < 1) = true := decide_eq_true g1
        have HN : Hid (rlV L = -1) := HOK.out.2.1 (fun e => by have := (HOK.out.2.2.1.1 e).1; omega)
        clear hprev hn0
        go_quiet (fail)
        go_wp2
        go_ret
        exact ⟨by rw [HN.out]; rfl, HK2.out.drewN _⟩
      · have g1' : decide (x1 < 1) = false := decide_eq_false g1
        by_cases g2 : 1048576 < x1
        · have g2' : decide (1048576 < x1) = true := decide_eq_true g2
          have HN : Hid (rlV L = -1) := HOK.out.2.1 (fun e => by have := (HOK.out.2.2.1.1 e).2.1; omega)
          clear hprev hn0
          go_quiet (fail)
          go_wp2
          go_ret
          exact ⟨by rw [HN.out]; rfl, HK2.out.drewN _⟩
        · have g2' : decide (1048576 < x1) = false := decide_eq_false g2
          by_cases g3 : x2 < 0
          · have g3' : decide (x2 < 0) = true := decide_eq_true g3
            have HN : Hid (rlV L = -1) := HOK.out.2.1 (fun e => by have := (HOK.out.2.2.1.1 e).2.2.1; omega)
            clear hprev hn0
            go_quiet (fail)
            go_wp2
            go_ret
            exact ⟨by rw [HN.out]; rfl, HK2.out.drewN _⟩
          · have g3' : decide (x2 < 0) = false := decide_eq_false g3
            by_cases g4 : 32 < x2
            · have g4' : decide (32 < x2) = true := decide_eq_true g4
              have HN : Hid (rlV L = -1) := HOK.out.2.1 (fun e => by have := (HOK.out.2.2.1.1 e).2.2.2.1; omega)
              clear hprev hn0
              go_quiet (fail)
              go_wp2
              go_ret
              exact ⟨by rw [HN.out]; rfl, HK2.out.drewN _⟩
            · have g4' : decide (32 < x2) = false := decide_eq_false g4
              have fin : (hne : x2 ≠ y0) → (A' : Int) → A' = A + x1 → (¬ 1048576 < A' → Slt.Ok L q) ∧ (1048576 < A' → rlV L = -1) := fun hne A' e => ⟨fun hle => HOK.out.2.2.1.2 ⟨by omega, by omega, by omega, by omega, hne⟩, fun hgt => HOK.out.2.1 (fun e => by have := (HOK.out.2.2.1.1 e).2.1; omega)⟩
              have HFIN : Hid ((hne : x2 ≠ y0) → (A' : Int) → A' = A + x1 → (¬ 1048576 < A' → Slt.Ok L q) ∧ (1048576 < A' → rlV L = -1)) := fin
              clear fin
              by_cases g5 : 0 < q
              · have g5' : decide ((0 : Int) < (q : Int)) = true := decide_eq_true (by omega)
                have g5z : (0 : Int) < (q : Int) := by omega
                obtain ⟨y, ey, cy⟩ := hprev g5
                subst ey
                have cy' := ka.cell cy (fun h => h)
                have hq1 : ((q : Int) - 1).toNat = q - 1 := by omega
                clear hprev hn0 cy
                by_cases g6 : y0 = x2
                · have g6' : (y0 == x2) = true := by simp [g6]
                  have HN : Hid (rlV L = -1) := HOK.out.2.1 (fun e => (HOK.out.2.2.1.1 e).2.2.2.2 g6.symm)
                  clear g6
                  go_quiet (fail)
                  go_wp2
                  go_ret
                  exact ⟨by rw [HN.out]; rfl, HK2.out.drewN _⟩
                · have g6' : (y0 == x2) = false := by simp [g6]
                  have HF2 := HFIN.out (fun e => g6 e.symm) _ rfl
                  have HF3 : Hid ((¬ 1048576 < A + x1 → Slt.Ok L q) ∧ (1048576 < A + x1 → rlV L = -1)) := HF2
                  clear HFIN HF2 g6
                  go_quiet (fail)
                  by_cases g7 : 1048576 < A + x1
                  · go_wp2
                    go_ret
                    exact ⟨by rw [HF3.out.2 g7]; rfl, HK2.out.drewN _⟩
                  · go_wp2
                    go_roundw
                    case rel => exact ⟨q + 1, by rw [HPS.out], by go_num, by omega, fun i hi => by rcases Nat.lt_succ_iff_lt_or_eq.1 hi with h | h; exact HOK.out.1 i h; subst h; exact HF3.out.1 g7, HK2.out.drewN _⟩
                    case measure => simp [intOf]; omega
              · have g5' : decide ((0 : Int) < (q : Int)) = false := decide_eq_false (by omega)
                have g5z : ¬ (0 : Int) < (q : Int) := by omega
                have hy0 : y0 = -1 := hn0 (by omega)
                have HF2 := HFIN.out (by omega) _ rfl
                have HF3 : Hid ((¬ 1048576 < A + x1 → Slt.Ok L q) ∧ (1048576 < A + x1 → rlV L = -1)) := HF2
                clear HFIN HF2 hprev hn0 hy0
                go_quiet (fail)
                by_cases g7 : 1048576 < A + x1
                · go_wp2
                  go_ret
                  exact ⟨by rw [HF3.out.2 g7]; rfl, HK2.out.drewN _⟩
                · go_wp2
                  go_roundw
                  case rel => exact ⟨q + 1, by rw [HPS.out], by go_num, by omega, fun i hi => by rcases Nat.lt_succ_iff_lt_or_eq.1 hi with h | h; exact HOK.out.1 i h; subst h; exact HF3.out.1 g7, HK2.out.drewN _⟩
                  case measure => simp [intOf]; omega
    · obtain rfl : q = n := by omega
      have HK : Hid (Kept No w wr) := hk
      have HE : Hid (rlV L = Slt.pr L q) := by
        show rlV L = Slt.pr L q
        have hg : Slt.Goes L := fun i hi => hoks i (by rw [HL.out] at hi; exact hi)
        unfold rlV
        rw [if_pos hg, HL.out]
      clear hk hoks
      generalize Slt.pr L q = A at *
      go_wp2
      go_ret
      exact ⟨by rw [HE.out]; rfl, HK.out⟩

theorem rl_hy (P C : List (Int × Int)) : (rlV P < 1 → hyF P C = 0) ∧ (1 ≤ rlV P → rlV P ≠ rlV C → hyF P C = 0) ∧ (1 ≤ rlV P → rlV P = rlV C → hyF P C ≠ 0) := by
  have a1 : ∀ L, 1 ≤ rlV L → Slt.lenF L = rlV L := fun L h => by
    unfold rlV at h ⊢
    unfold Slt.lenF
    split at h
    · rename_i g; rw [if_pos g, if_pos g]
    · omega
  have a2 : ∀ L, rlV L < 1 → Slt.lenF L = 0 := fun L h => by
    unfold rlV at h
    unfold Slt.lenF
    split at h
    · rename_i g
      rw [if_pos g]
      have := Slt.pr_bd (Nat.le_refl _) g
      omega
    · rename_i g; rw [if_neg g]
  unfold hyF
  refine ⟨fun h => ?_, fun h1 h2 => ?_, fun h1 h2 => ?_⟩
  · rw [a2 P h]; split <;> rfl
  · rw [a1 P h1]
    by_cases hc : 1 ≤ rlV C
    · rw [a1 C hc, if_neg h2]
    · rw [a2 C (by omega), if_neg (by omega)]
  · rw [a1 P h1, a1 C (by omega), if_pos h2]
    omega

set_option maxHeartbeats 2000000 in
theorem rvalid_any {F G : Nat → Prop} {a0 a1 : Option Addr} {n0 c0 n1 c1 : Nat} {P C : List (Int × Int)} (w : World) (h : Sl w F a0 n0 c0 P) (hF : ∀ k, F k → k < w.heap.size) (h' : Sl w G a1 n1 c1 C) (hG : ∀ k, G k → k < w.heap.size) (h6 : ∀ i, i < n0 → I9 (Slt.gt P i).1 ∧ I9 (Slt.gt P i).2) (h6' : ∀ i, i < n1 → I9 (Slt.gt C i).1 ∧ I9 (Slt.gt C i).2) :
    Calls Tryz.prog 23 #[.agg #[.slice a0 n0 c0, .slice a1 n1 c1]] w fun e w' => e = .returned (.int .i64 (if hyF P C = 0 then 20 else 0)) ∧ Kept No w w' := by
  have k1 : Kept No w (w.alloc (.cells #[.slice a0 n0 c0, .slice a1 n1 c1] 25)) := (Kept.refl No w).alloc _
  have hl := rlength_any _ (h.keep k1) (fun k hk => Nat.lt_of_lt_of_le (hF k hk) k1.size) h6
  have HL2 : Hid (∀ W, Kept No w W → Calls Tryz.prog 41 #[.slice a1 n1 c1] W fun e w' => e = .returned (.int .i64 (rlV C)) ∧ Kept No W w') := fun W k => rlength_any W (h'.keep k) (fun j hj => Nat.lt_of_lt_of_le (hG j hj) k.size) h6'
  have hb := World.alloc_heap_new w (.cells #[.slice a0 n0 c0, .slice a1 n1 c1] 25)
  have HK : Hid (Kept No w (w.alloc (.cells #[.slice a0 n0 c0, .slice a1 n1 c1] 25)) ∧ (w.alloc (.cells #[.slice a0 n0 c0, .slice a1 n1 c1] 25)).heap[w.heap.size]? = some (.cells #[.slice a0 n0 c0, .slice a1 n1 c1] 25)) := ⟨k1, hb⟩
  obtain ⟨b0, b1⟩ := bx2 hb
  have HR : Hid ((rlV P < 1 → hyF P C = 0) ∧ (1 ≤ rlV P → rlV P ≠ rlV C → hyF P C = 0) ∧ (1 ≤ rlV P → rlV P = rlV C → hyF P C ≠ 0)) := rl_hy P C
  clear h h' hF hG k1 hb h6 h6'
  generalize hyF P C = Y at *
  generalize rlV P = V at *
  generalize rlV C = U at *
  by_cases hV : V < 1
  · have hY := HR.out.1 hV
    rw [if_pos hY]
    clear hY HR HL2
    go_enter Tryz.func23, Tryz.ntmps23
    go_wp2_with (go_at_call 41; refine hl.mono ?_; rintro e w1 ⟨rfl, hk1⟩; have H1 : Hid (Kept No w w1) := HK.out.1.trans hk1 (fun _ h => h.elim); clear hk1 hl b0 b1)
    go_ret
    exact ⟨rfl, H1.out⟩
  · by_cases hU : V = U
    · have hY := HR.out.2.2 (by omega) hU
      rw [if_neg hY]
      subst hU
      clear hY HR
      go_enter Tryz.func23, Tryz.ntmps23
      go_upto_region 2 with (go_at_call 41; refine hl.mono ?_; rintro e w1 ⟨rfl, hk1⟩; have H1 : Hid (Kept No w w1 ∧ w1.heap[w.heap.size]? = some (.cells #[.slice a0 n0 c0, .slice a1 n1 c1] 25)) := ⟨HK.out.1.trans hk1 (fun _ h => h.elim), hk1.at' HK.out.2 (fun h => h)⟩; clear hk1 hl b0 b1)
      obtain ⟨b0, b1⟩ := bx2 H1.out.2
      have l2 := HL2.out w1 H1.out.1
      go_wp2_with (go_at_call 41; refine l2.mono ?_; rintro e w2 ⟨rfl, hk2⟩; have H2 : Hid (Kept No w w2) := H1.out.1.trans hk2 (fun _ h => h.elim); clear hk2 l2)
      go_ret
      exact ⟨rfl, H2.out⟩
    · have hY := HR.out.2.1 (by omega) hU
      rw [if_pos hY]
      have hU' : (V != U) = true := bne_iff_ne.2 hU
      clear hY HR
      go_enter Tryz.func23, Tryz.ntmps23
      go_upto_region 2 with (go_at_call 41; refine hl.mono ?_; rintro e w1 ⟨rfl, hk1⟩; have H1 : Hid (Kept No w w1 ∧ w1.heap[w.heap.size]? = some (.cells #[.slice a0 n0 c0, .slice a1 n1 c1] 25)) := ⟨HK.out.1.trans hk1 (fun _ h => h.elim), hk1.at' HK.out.2 (fun h => h)⟩; clear hk1 hl b0 b1)
      obtain ⟨b0, b1⟩ := bx2 H1.out.2
      have l2 := HL2.out w1 H1.out.1
      go_wp2_with (go_at_call 41; refine l2.mono ?_; rintro e w2 ⟨rfl, hk2⟩; have H2 : Hid (Kept No w w2) := H1.out.1.trans hk2 (fun _ h => h.elim); clear hk2 l2)
      go_ret
      exact ⟨rfl, H2.out⟩
end Go.Proofs.YtkmpgcgdamcikaaGreatDoor

namespace Go.Proofs.YtkmpgcgdamcikaaGreatDoor
open Go.RowKit Go.Shelf Plain
set_option linter.unusedVariables false
set_option maxRecDepth 100000

instance (ys : List Nat) : Decidable (dOk ys) := inferInstanceAs (Decidable (_ ∧ _))
def dcE (xs : List Nat) : Int := if 4194304 < xs.length then 1 else if unsE 2 xs = 0 ∧ dOk (unsX 2 xs) then 0 else 20
def dcP (xs : List Nat) : List (Nat × Nat) := if dcE xs = 0 then rP (unsX 2 xs) else []
def dcC (xs : List Nat) : List (Nat × Nat) := if dcE xs = 0 then rC (unsX 2 xs) else []
theorem dc_yes {xs : List Nat} (h1 : ¬ 4194304 < xs.length) (h2 : unsE 2 xs = 0) (h3 : dOk (unsX 2 xs)) : dcE xs = 0 ∧ dcP xs = rP (unsX 2 xs) ∧ dcC xs = rC (unsX 2 xs) := by
  have e : dcE xs = 0 := by unfold dcE; rw [if_neg h1, if_pos ⟨h2, h3⟩]
  exact ⟨e, if_pos e, if_pos e⟩
theorem dc_no {xs : List Nat} (h1 : ¬ 4194304 < xs.length) (h : ¬ (unsE 2 xs = 0 ∧ dOk (unsX 2 xs))) : dcE xs = 20 ∧ dcP xs = [] ∧ dcC xs = [] := by
  have e : dcE xs = 20 := by unfold dcE; rw [if_neg h1, if_neg h]
  exact ⟨e, if_neg (by rw [e]; decide), if_neg (by rw [e]; decide)⟩
theorem dc_long {xs : List Nat} (h1 : 4194304 < xs.length) : dcE xs = 1 ∧ dcP xs = [] ∧ dcC xs = [] := by
  have e : dcE xs = 1 := by unfold dcE; rw [if_pos h1]
  exact ⟨e, if_neg (by rw [e]; decide), if_neg (by rw [e]; decide)⟩
/-- what a table that was read is told as -/
theorem dc_told {xs : List Nat} (hx : ∀ x ∈ xs, x < 256) (h : dcE xs = 0) : hyF (zl (dcP xs)) (zl (dcC xs)) ≠ 0 ∧ ¬ encLong (zl (dcP xs)) (zl (dcC xs)) ∧ sealed 2 (bodyB (zl (dcP xs)) (zl (dcC xs))) = xs := by
  by_cases h1 : 4194304 < xs.length
  · rw [(dc_long h1).1] at h; cases h
  · by_cases h2 : unsE 2 xs = 0 ∧ dOk (unsX 2 xs)
    · obtain ⟨_, e1, e2⟩ := dc_yes h1 h2.1 h2.2
      obtain ⟨f1, f2⟩ := uns_form h2.1
      rw [e1, e2]
      refine ⟨h2.2.2, ?_, ?_⟩
      · unfold encLong
        have l1 : (rP (unsX 2 xs)).length = nP (unsX 2 xs) := gpL_len _ _
        have l2 : (rC (unsX 2 xs)).length = nC (unsX 2 xs) := gpL_len _ _
        rw [zl_len, zl_len, l1, l2]
        have hl : xs.length = (unsX 2 xs).length + 12 := by
          have := congrArg List.length f1
          rw [sealed_length] at this
          exact this
        have := h2.2.1
        omega
      · rw [body_fwd (uns_lt hx) h2.2.1]
        exact f1.symm
    · rw [(dc_no h1 h2).1] at h; cases h

theorem tq_nil (w : World) (lo hi : Nat) : Tq w lo hi none ([] : List (Nat × Nat)).length none ([] : List (Nat × Nat)).length [] [] := ⟨sl_nil _ _, sl_nil _ _⟩
theorem wq_nil (w : World) (lo hi : Nat) : Wq w lo hi none none ([] : List (Nat × Nat)).length ([] : List (Nat × Nat)).length := ⟨⟨_, rs_nil _⟩, ⟨_, rs_nil _⟩, fun k e => (by cases e), fun k e => (by cases e), fun k e => (by cases e)⟩

/-- the program's -/
theorem decode_ex {F : Nat → Prop} {a : Option Addr} {n c : Nat} {xs : List Nat} (w : World) (h : Bs w F a n c xs) :
    Calls Tryz.prog 4 #[.slice a n c] w fun e w' => ∃ a0 a1, e = .returned (.tuple #[.agg #[.slice a0 (dcP xs).length (dcP xs).length, .slice a1 (dcC xs).length (dcC xs).length], .int .i64 (dcE xs)]) ∧ Tq w' w.heap.size w'.heap.size a0 (dcP xs).length a1 (dcC xs).length (dcP xs) (dcC xs) ∧ Wq w' w.heap.size w'.heap.size a0 a1 (dcP xs).length (dcC xs).length ∧ Kept No w w' := by
  have hlen := h.len
  by_cases hl : n ≤ 4194304
  · have h1 : ¬ 4194304 < xs.length := by omega
    by_cases hu : unsE 2 xs = 0
    · by_cases hr : 8 ≤ (unsX 2 xs).length ∧ 5 * (nP (unsX 2 xs) + nC (unsX 2 xs)) ≤ (unsX 2 xs).length - 8
      · refine (decode_read w h hl hu hr.1 hr.2).mono ?_
        rintro e w' ⟨⟨hok, a0, a1, rfl, tq, wq⟩ | ⟨hn, rfl⟩, hk⟩
        · obtain ⟨e0, e1, e2⟩ := dc_yes h1 hu hok
          have l1 : (rP (unsX 2 xs)).length = nP (unsX 2 xs) := gpL_len _ _
          have l2 : (rC (unsX 2 xs)).length = nC (unsX 2 xs) := gpL_len _ _
          rw [e0, e1, e2, l1, l2]
          exact ⟨a0, a1, rfl, tq, wq, hk⟩
        · obtain ⟨e0, e1, e2⟩ := dc_no h1 (fun hh => hn hh.2)
          rw [e0, e1, e2]
          exact ⟨none, none, rfl, tq_nil _ _ _, wq_nil _ _ _, hk⟩
      · refine (decode_not w h hl hu (dn_of hr)).mono ?_
        rintro e w' ⟨rfl, hk⟩
        obtain ⟨e0, e1, e2⟩ := dc_no h1 (fun hh => hr ⟨by have := hh.2.1; omega, by have := hh.2.1; omega⟩)
        rw [e0, e1, e2]
        exact ⟨none, none, rfl, tq_nil _ _ _, wq_nil _ _ _, hk⟩
    · refine (decode_form w h hl hu).mono ?_
      rintro e w' ⟨rfl, hk⟩
      obtain ⟨e0, e1, e2⟩ := dc_no h1 (fun hh => hu hh.1)
      rw [e0, e1, e2]
      exact ⟨none, none, rfl, tq_nil _ _ _, wq_nil _ _ _, hk⟩
  · refine (decode_long w h (by omega)).mono ?_
    rintro e w' ⟨rfl, hk⟩
    obtain ⟨e0, e1, e2⟩ := dc_long (xs := xs) (by omega)
    rw [e0, e1, e2]
    exact ⟨none, none, rfl, tq_nil _ _ _, wq_nil _ _ _, hk⟩

theorem runseal_bs {G : Nat → Prop} {a : Option Addr} {n c : Nat} {xs : List Nat} (w : World) (h : Bs w G a n c xs) :
    Calls Tryz.prog 19 #[.int .u8 2, .slice a n c] w fun ex w' => ∃ a' c', ex = .returned (.tuple #[.slice a' (unsX 2 xs).length c', .int .i64 (unsE 2 xs)]) ∧ Bs w' (fun k => w.heap.size ≤ k ∧ k < w'.heap.size) a' (unsX 2 xs).length c' (unsX 2 xs) ∧ Kept No w w' := by
  have hlt := uns_lt (kind := 2) h.lt
  refine (refUnseal_any G 2 a n c xs w (by decide) h).mono ?_
  rintro ex w' ⟨a', n', c', rfl, ho, hB⟩
  obtain ⟨a2, c2, ev, hb⟩ := Bs.of_owns ho hlt
  injection ev with e1 e2 e3
  subst e1 e2 e3
  exact ⟨_, _, rfl, hb.mono (fun k e => ho.lt k e), Kept.of_below hB⟩
theorem r8_of {ys : List Nat} (h : 8 ≤ ys.length) : rA ys = (nP ys : Nat) ∧ rB ys = (nC ys : Nat) ∧ rE ys = 0 ∧ rR ys = ys.drop 8 := by
  obtain ⟨t1, t2, t3⟩ := tk4 (xs := ys) (by omega)
  obtain ⟨s1, s2, s3⟩ := tk4 (xs := ys.drop 4) (by rw [List.length_drop]; omega)
  unfold rA rB rE rR
  rw [t1, t2, t3, s1, s2, s3, List.drop_drop]
  exact ⟨rfl, rfl, rfl, rfl⟩
theorem Bs.wide {w : World} {F G : Nat → Prop} {a : Option Addr} {n c : Nat} {xs : List Nat} (h : Bs w F a n c xs) (hF : ∀ k, F k → G k) : Bs w G a n c xs := h.mono hF

set_option maxHeartbeats 8000000 in
theorem rdecode_ex {F : Nat → Prop} {a : Option Addr} {n c : Nat} {xs : List Nat} (w : World) (h : Bs w F a n c xs) :
    Calls Tryz.prog 5 #[.slice a n c] w fun e w' => ∃ a0 c0 a1 c1, e = .returned (.tuple #[.agg #[.slice a0 (dcP xs).length c0, .slice a1 (dcC xs).length c1], .int .i64 (dcE xs)]) ∧ Tq w' w.heap.size w'.heap.size a0 c0 a1 c1 (dcP xs) (dcC xs) ∧ Kept No w w' := by
  have hlen := h.len
  have hn := Nat.le_trans h.cap h.max
  have ka : Kept No w (w.alloc (.cells #[.slice none 0 0, .slice none 0 0] 25)) := (Kept.refl No w).alloc _
  have hb := World.alloc_heap_new w (.cells #[.slice none 0 0, .slice none 0 0] 25)
  have HA : Hid (Kept No w (w.alloc (.cells #[.slice none 0 0, .slice none 0 0] 25)) ∧ (w.alloc (.cells #[.slice none 0 0, .slice none 0 0] 25)).heap[w.heap.size]? = some (.cells #[.slice none 0 0, .slice none 0 0] 25)) := ⟨ka, hb⟩
  have u1 := runseal_bs _ (h.kept ka (fun _ _ h => h))
  have hxl := uns_len 2 xs
  have hlt := uns_lt (kind := 2) h.lt
  by_cases hl : 4194304 < n
  · obtain ⟨e0, e1, e2⟩ := dc_long (xs := xs) (by omega)
    rw [e0, e1, e2]
    have hlz : (4194304 : Int) < n := by omega
    obtain ⟨t0, t1⟩ := bx2 hb
    have tf := tab_fz2 hb
    clear h ka hb u1 e0 e1 e2 hxl hlt hlen
    go_enter Tryz.func5, Tryz.ntmps5
    go_wp2
    clear t0 t1 tf
    refine bodyPost_ret (results_ct rfl _ _ w.heap.size (.agg #[.slice none 0 0, .slice none 0 0]) rfl (ldT HA.out.2)) rfl ?_
    exact ⟨none, 0, none, 0, rfl, tq_nil _ _ _, HA.out.1⟩
  · have hlz : ¬ (4194304 : Int) < n := by omega
    have h1 : ¬ 4194304 < xs.length := by omega
    by_cases hu : unsE 2 xs = 0
    · rw [hu] at u1
      have HY : Hid (dOk (unsX 2 xs) → dcE xs = 0 ∧ dcP xs = rP (unsX 2 xs) ∧ dcC xs = rC (unsX 2 xs)) := fun hh => dc_yes h1 hu hh
      have HN : Hid (¬ dOk (unsX 2 xs) → dcE xs = 20 ∧ dcP xs = [] ∧ dcC xs = []) := fun hh => dc_no h1 (fun q => hh q.2)
      rw [hlen] at hxl
      clear h ka hb hu h1 hlen
      generalize dcE xs = E0 at *
      generalize dcP xs = P0 at *
      generalize dcC xs = C0 at *
      generalize unsX 2 xs = ys at *
      have HA0 := rdN_lt (xs := ys) 0 4 hlt
      have hrl : ∀ x ∈ tkRest ys 0 4, x < 256 := by
        intro x hx
        unfold tkRest at hx
        split at hx
        · exact hlt x (List.mem_of_mem_drop hx)
        · exact hlt x hx
      have HB0 := rdN_lt (xs := tkRest ys 0 4) (tkE ys 0 4) 4 hrl
      have HQ : Hid (rdN ys 0 4 = rA ys ∧ rdN (tkRest ys 0 4) (tkE ys 0 4) 4 = rB ys ∧ tkE (tkRest ys 0 4) (tkE ys 0 4) 4 = rE ys ∧ tkRest (tkRest ys 0 4) (tkE ys 0 4) 4 = rR ys) := ⟨rfl, rfl, rfl, rfl⟩
      have HLT : Hid (∀ x ∈ ys, x < 256) := hlt
      rw [HQ.out.1] at HA0
      rw [HQ.out.2.1] at HB0
      clear hrl hlt
      go_enter Tryz.func5, Tryz.ntmps5
      go_upto_region 6 with (go_at_call 19; refine u1.mono ?_; rintro e w1 ⟨a1, c1, rfl, hb1, hk1⟩; have H1 : Hid (Bs w1 (fun k => (w.alloc (.cells #[.slice none 0 0, .slice none 0 0] 25)).heap.size ≤ k ∧ k < w1.heap.size) a1 ys.length c1 ys ∧ Kept No w w1 ∧ w1.heap[w.heap.size]? = some (.cells #[.slice none 0 0, .slice none 0 0] 25)) := ⟨hb1, HA.out.1.trans hk1 (fun _ h => h.elim), hk1.at' HA.out.2 (fun h => h)⟩; clear hb1 hk1 u1)
      have H2 : Hid (Il (w1.alloc (.cells #[.slice a1 ys.length c1, .int .i64 0, .int .i64 0] 50)) (fun k => w.heap.size < k ∧ k < (w1.alloc (.cells #[.slice a1 ys.length c1, .int .i64 0, .int .i64 0] 50)).heap.size) w1.heap.size ys 0 ∧ Kept No w (w1.alloc (.cells #[.slice a1 ys.length c1, .int .i64 0, .int .i64 0] 50)) ∧ (w1.alloc (.cells #[.slice a1 ys.length c1, .int .i64 0, .int .i64 0] 50)).heap[w.heap.size]? = some (.cells #[.slice none 0 0, .slice none 0 0] 25) ∧ w.heap.size < w1.heap.size) := by
        have kb : Kept No w1 (w1.alloc (.cells #[.slice a1 ys.length c1, .int .i64 0, .int .i64 0] 50)) := (Kept.refl No w1).alloc _
        have hb := World.alloc_heap_new w1 (.cells #[.slice a1 ys.length c1, .int .i64 0, .int .i64 0] 50)
        have hs := heap_lt hb
        have hw := heap_lt H1.out.2.2
        refine ⟨⟨a1, ys.length, c1, ys, 0, ⟨hb, ?_, Nat.zero_le _, ⟨hw, hs⟩⟩, rfl, by omega⟩, H1.out.2.1.trans kb (fun _ h => h.elim), kb.at' H1.out.2.2 (fun h => h), hw⟩
        refine (H1.out.1.kept kb (fun _ _ h => h)).mono (fun k hk => ⟨⟨?_, by omega⟩, by omega⟩)
        have := hk.1
        rw [World.size_alloc] at this
        omega
      clear H1
      go_upto_region 7 with fail
      generalize hW2 : (w1.alloc (.cells #[.slice a1 ys.length c1, .int .i64 0, .int .i64 0] 50)) = w2 at *
      clear hW2
      generalize w1.heap.size = p at *
      have q1 := inU32_any _ p ys 0 w2 H2.out.1
      rw [HQ.out.1] at q1
      go_upto_region 8 with (go_at_call 20; refine q1.mono ?_; rintro e w3 ⟨rfl, hr3⟩; clear q1)
      have q2 := inU32_any _ p _ _ w3 hr3.1
      rw [HQ.out.2.1, HQ.out.2.2.1, HQ.out.2.2.2] at q2
      go_upto_region 9 with (go_at_call 20; refine q2.mono ?_; rintro e w4 ⟨rfl, hr4⟩; clear q2)
      have k4 : Kept (fun j => j = p) w2 w4 := hr3.2.1.trans hr4.2.1 (fun _ h => .inl h)
      have H4 : Hid (Kept No w w4 ∧ w4.heap[w.heap.size]? = some (.cells #[.slice none 0 0, .slice none 0 0] 25) ∧ Il w4 (fun k => w.heap.size < k ∧ k < w2.heap.size) p (rR ys) (rE ys) ∧ w2.heap.size ≤ w4.heap.size ∧ w.heap.size < p) := ⟨H2.out.2.1.trans k4 (fun b e => .inr (by have := H2.out.2.2.2; omega)), k4.at' H2.out.2.2.1 (fun e => by have := H2.out.2.2.2; omega), hr4.1, k4.size, H2.out.2.2.2⟩
      clear hr3 hr4 k4 H2 HA
      by_cases hm : 8 + 5 * (rA ys + rB ys) = (ys.length : Int)
      · have h8 : 8 ≤ ys.length := by omega
        obtain ⟨r1, r2, r3, r4⟩ := r8_of h8
        rw [r1, r2] at hm
        have HI := H4.out.2.2.1
        rw [r3, r4] at HI
        have HI4 : Hid (Il w4 (fun k => w.heap.size < k ∧ k < w2.heap.size) p (ys.drop 8) 0) := HI
        have hd8 : (ys.drop 8).length = ys.length - 8 := List.length_drop
        have HPC : Hid (rP ys = gpL (ys.drop 8) (nP ys) ∧ rC ys = gpL ((ys.drop 8).drop (5 * nP ys)) (nC ys)) := ⟨rfl, rfl⟩
        have HD : Hid (dOk ys ↔ hyF (zl (rP ys)) (zl (rC ys)) ≠ 0) := ⟨fun q => q.2, fun q => ⟨by omega, q⟩⟩
        have HRR : Hid (rdDone (((ys.drop 8).drop (5 * nP ys)).drop (5 * nC ys)) 0 = 0) := by
          have : ((ys.drop 8).drop (5 * nP ys)).drop (5 * nC ys) = [] := List.drop_eq_nil_iff.2 (by rw [List.length_drop, hd8]; omega)
          show _ = _
          rw [this]
          rfl
        have HI6 : Hid ((∀ i, i < nP ys → I9 (Slt.gt (zl (rP ys)) i).1 ∧ I9 (Slt.gt (zl (rP ys)) i).2) ∧ (∀ i, i < nC ys → I9 (Slt.gt (zl (rC ys)) i).1 ∧ I9 (Slt.gt (zl (rC ys)) i).2) ∧ (rP ys).length = nP ys ∧ (rC ys).length = nC ys) := by
          have key : ∀ (zs : List Nat) (m i : Nat), (∀ x ∈ zs, x < 256) → i < m → I9 (Slt.gt (zl (gpL zs m)) i).1 ∧ I9 (Slt.gt (zl (gpL zs m)) i).2 := fun zs m i hz hi => by
            have hg : (gpL zs m)[i]? = some (gp zs i) := by simp [gpL, hi]
            rw [zl_gt hg]
            have v1 : (gp zs i).1 < 256 ^ 4 := by
              have l1 : ((zs.drop (5 * i)).take 4).length ≤ 4 := by rw [List.length_take]; omega
              have := val_lt ((zs.drop (5 * i)).take 4) (fun x hx => hz x (List.mem_of_mem_drop (List.mem_of_mem_take hx))) _ (Nat.le_refl _)
              rw [List.take_length] at this
              exact Nat.lt_of_lt_of_le this (Nat.pow_le_pow_right (by decide) l1)
            have v2 : (gp zs i).2 < 256 ^ 1 := by
              have l1 : ((zs.drop (5 * i + 4)).take 1).length ≤ 1 := by rw [List.length_take]; omega
              have := val_lt ((zs.drop (5 * i + 4)).take 1) (fun x hx => hz x (List.mem_of_mem_drop (List.mem_of_mem_take hx))) _ (Nat.le_refl _)
              rw [List.take_length] at this
              exact Nat.lt_of_lt_of_le this (Nat.pow_le_pow_right (by decide) l1)
            unfold I9
            simp only
            omega
          exact ⟨fun i hi => key _ _ i (fun x hx => HLT.out x (List.mem_of_mem_drop hx)) hi, fun i hi => key _ _ i (fun x hx => HLT.out x (List.mem_of_mem_drop (List.mem_of_mem_drop hx))) hi, gpL_len _ _, gpL_len _ _⟩
        rw [r1, r2]
        clear r1 r2 r3 r4 HI HQ HA0 HB0
        have g1 := rpart_any (n := nP ys) w4 HI4.out (fun k hk => by have := H4.out.2.2.2.1; omega) (by omega) (by omega)
        rw [← HPC.out.1] at g1
        have hmz : (8 : Int) + 5 * ((nP ys : Int) + (nC ys : Int)) = (ys.length : Int) := hm
        have hn1 : nP ys ≤ 2097152 := by omega
        have hn2 : nC ys ≤ 2097152 := by omega
        have z2 : ((nP ys : Nat) : Int) ≤ 2097152 := by omega
        have z3 : ((nC ys : Nat) : Int) ≤ 2097152 := by omega
        have hdz : ((ys.drop 8).drop (5 * nP ys)).length = ys.length - 8 - 5 * nP ys := by rw [List.length_drop, hd8]
        clear hm
        go_upto_region 11 with fail
        go_upto_region 12 with (go_at_call 21; refine g1.mono ?_; rintro e w6 ⟨v6, rfl, how6, hr6, hk6⟩; obtain ⟨b0, d0, rfl, s6⟩ := how6.sl; clear g1)
        have H6 : Hid (Il (w6.alloc (.cells #[.slice b0 (rP ys).length d0, .slice none 0 0] 25)) (fun k => w.heap.size < k ∧ k < w2.heap.size) p ((ys.drop 8).drop (5 * nP ys)) 0 ∧ Sl (w6.alloc (.cells #[.slice b0 (rP ys).length d0, .slice none 0 0] 25)) (fun k => w4.heap.size ≤ k ∧ k < w6.heap.size) b0 (rP ys).length d0 (zl (rP ys)) ∧ (w6.alloc (.cells #[.slice b0 (rP ys).length d0, .slice none 0 0] 25)).heap[w.heap.size]? = some (.cells #[.slice none 0 0, .slice none 0 0] 25) ∧ (w6.alloc (.cells #[.slice b0 (rP ys).length d0, .slice none 0 0] 25)).heap[w6.heap.size]? = some (.cells #[.slice b0 (rP ys).length d0, .slice none 0 0] 25) ∧ Kept No w (w6.alloc (.cells #[.slice b0 (rP ys).length d0, .slice none 0 0] 25)) ∧ w4.heap.size ≤ w6.heap.size ∧ w6.heap.size < (w6.alloc (.cells #[.slice b0 (rP ys).length d0, .slice none 0 0] 25)).heap.size ∧ p < w4.heap.size) := by
          have kb : Kept No w6 (w6.alloc (.cells #[.slice b0 (rP ys).length d0, .slice none 0 0] 25)) := (Kept.refl No w6).alloc _
          have hb := World.alloc_heap_new w6 (.cells #[.slice b0 (rP ys).length d0, .slice none 0 0] 25)
          have hp : p < w4.heap.size := by obtain ⟨a, n, c, bs, m, hv, _⟩ := HI4.out; exact hv.plt
          refine ⟨hr6.kept kb (fun _ _ h => h), (s6.keep kb).mono (fun k hk => how6.lt k hk), kb.at' (hk6.at' H4.out.2.1 (fun e => by have := H4.out.2.2.2.2; omega)) (fun h => h), hb, (H4.out.1.trans hk6 (fun k e => .inr (by have := H4.out.2.2.2.2; omega))).trans kb (fun _ h => h.elim), hk6.size, heap_lt hb, hp⟩
        clear hr6 how6 s6 hk6
        generalize hW6 : (w6.alloc (.cells #[.slice b0 (rP ys).length d0, .slice none 0 0] 25)) = W6 at *
        clear hW6
        generalize w6.heap.size = B6 at *
        have g2 := rpart_any (n := nC ys) W6 H6.out.1 (fun k hk => by have := H6.out.2.2.2.2.2.1; have := H6.out.2.2.2.2.2.2.1; have := H4.out.2.2.2.1; omega) (by omega) (by omega)
        rw [← HPC.out.2] at g2
        have HW : Hid (w.heap.size < p ∧ p < w4.heap.size ∧ w4.heap.size ≤ B6 ∧ B6 < W6.heap.size) := ⟨H4.out.2.2.2.2, H6.out.2.2.2.2.2.2.2, H6.out.2.2.2.2.2.1, H6.out.2.2.2.2.2.2.1⟩
        go_upto_region 13 with (go_at_call 21; go_loud (refine g2.mono ?_; rintro e w8 ⟨v8, rfl, how8, hr8, hk8⟩; obtain ⟨b1, d1, rfl, s8⟩ := how8.sl; have H8 : Hid (Il w8 (fun k => w.heap.size < k ∧ k < w2.heap.size) p (((ys.drop 8).drop (5 * nP ys)).drop (5 * nC ys)) 0 ∧ Sl w8 (fun k => W6.heap.size ≤ k ∧ k < w8.heap.size) b1 (rC ys).length d1 (zl (rC ys)) ∧ Kept (fun j => j = p) W6 w8) := ⟨hr8, s8.mono (fun k hk => how8.lt k hk), hk8⟩; clear hr8 s8 how8 hk8 g2; obtain ⟨t0, t1⟩ := bx2 (H8.out.2.2.at' H6.out.2.2.2.1 (fun e => by have := HW.out; omega)); have tf := tab_fz2 (H8.out.2.2.at' H6.out.2.2.2.1 (fun e => by have := HW.out; omega))))
        clear t0 t1 tf
        have H9 : Hid (Il (w8.setCell ⟨B6, 1, none⟩ (.slice b1 (rC ys).length d1)) (fun k => w.heap.size < k ∧ k < w2.heap.size) p (((ys.drop 8).drop (5 * nP ys)).drop (5 * nC ys)) 0 ∧ Sl (w8.setCell ⟨B6, 1, none⟩ (.slice b1 (rC ys).length d1)) (fun k => w.heap.size < k ∧ k < w8.heap.size) b0 (rP ys).length d0 (zl (rP ys)) ∧ Sl (w8.setCell ⟨B6, 1, none⟩ (.slice b1 (rC ys).length d1)) (fun k => w.heap.size < k ∧ k < w8.heap.size) b1 (rC ys).length d1 (zl (rC ys)) ∧ (w8.setCell ⟨B6, 1, none⟩ (.slice b1 (rC ys).length d1)).heap[w.heap.size]? = some (.cells #[.slice none 0 0, .slice none 0 0] 25) ∧ (w8.setCell ⟨B6, 1, none⟩ (.slice b1 (rC ys).length d1)).heap[B6]? = some (.cells #[.slice b0 (rP ys).length d0, .slice b1 (rC ys).length d1] 25) ∧ Kept No w (w8.setCell ⟨B6, 1, none⟩ (.slice b1 (rC ys).length d1)) ∧ (w8.setCell ⟨B6, 1, none⟩ (.slice b1 (rC ys).length d1)).heap.size = w8.heap.size) := by
          have hw := HW.out
          have kc : Kept (fun b => b = B6) w8 (w8.setCell ⟨B6, 1, none⟩ (.slice b1 (rC ys).length d1)) := Kept.setCell (F := fun k => k = B6) (p := ⟨B6, 1, none⟩) (Kept.refl _ w8) (.inl rfl) _
          have hb6 := H8.out.2.2.at' H6.out.2.2.2.1 (fun e => by omega)
          have k8 := H8.out.2.2
          have hs8 := k8.size
          have hs : (w8.setCell ⟨B6, 1, none⟩ (.slice b1 (rC ys).length d1)).heap.size = w8.heap.size := World.size_setCell _ _ _
          refine ⟨H8.out.1.kept kc (fun b h1 h2 => by have := H4.out.2.2.2.1; omega), ?_, ?_, kc.at' (k8.at' H6.out.2.2.1 (fun e => by omega)) (fun e => by omega), ?_, (H6.out.2.2.2.2.1.trans k8 (fun k e => .inr (by omega))).trans kc (fun k e => .inr (by omega)), hs⟩
          · exact ((H6.out.2.1.kept k8 (fun b h1 h2 => by omega)).kept kc (fun b h1 h2 => by omega)).mono (fun k hk => by omega)
          · exact (H8.out.2.1.kept kc (fun b h1 h2 => by omega)).mono (fun k hk => by omega)
          · simp [World.setCell, Array.getElem?_modify, hb6]
        clear H8 H6
        generalize (w8.setCell ⟨B6, 1, none⟩ (.slice b1 (rC ys).length d1)) = w9 at *
        have HL9 : Hid ((rP ys).length = nP ys ∧ (rC ys).length = nC ys) := ⟨HI6.out.2.2.1, HI6.out.2.2.2⟩
        have rd := inDone_any _ p _ _ w9 H9.out.1
        rw [HRR.out] at rd
        have HVv : Hid (∀ k, Calls Tryz.prog 23 #[.agg #[.slice b0 (rP ys).length d0, .slice b1 (rC ys).length d1]] (w9.drewN k) fun e w' => e = .returned (.int .i64 (if hyF (zl (rP ys)) (zl (rC ys)) = 0 then 20 else 0)) ∧ Kept No w9 w') := fun k => by
          have kd : Kept No w9 (w9.drewN k) := (Kept.refl No w9).drewN k
          have hs : (w9.drewN k).heap.size = w8.heap.size := H9.out.2.2.2.2.2.2
          refine (rvalid_any _ (H9.out.2.1.keep kd) (fun j hj => by omega) (H9.out.2.2.1.keep kd) (fun j hj => by omega) (fun i hi => HI6.out.1 i (by have := HL9.out; omega)) (fun i hi => HI6.out.2.1 i (by have := HL9.out; omega))).mono ?_
          rintro e w' ⟨e1, k1⟩
          exact ⟨e1, kd.trans k1 (fun _ h => h.elim)⟩
        obtain ⟨t0, t1⟩ := bx2 H9.out.2.2.2.2.1
        by_cases hy : hyF (zl (rP ys)) (zl (rC ys)) = 0
        · obtain ⟨e0, e1, e2⟩ := HN.out (fun q => HD.out.1 q hy)
          subst e0 e1 e2
          rw [if_pos hy] at HVv
          clear hy
          go_wp2_with (first
            | (go_at_call 22; refine rd.mono ?_; rintro e w10 ⟨rfl, kn, hw10⟩; subst hw10; have vv := HVv.out kn; clear rd t0 t1; obtain ⟨t0, t1⟩ := bx2 (((Kept.refl No w9).drewN kn).at' H9.out.2.2.2.2.1 (fun h => h)))
            | (go_at_call 23; refine vv.mono ?_; rintro e w11 ⟨rfl, k11⟩; have H11 : Hid (Kept No w w11 ∧ w11.heap[w.heap.size]? = some (.cells #[.slice none 0 0, .slice none 0 0] 25)) := ⟨H9.out.2.2.2.2.2.1.trans k11 (fun _ h => h.elim), k11.at' H9.out.2.2.2.1 (fun h => h)⟩; clear vv k11 t0 t1; obtain ⟨t0, t1⟩ := bx2 H11.out.2; have tf := tab_fz2 H11.out.2))
          clear t0 t1 tf
          refine bodyPost_ret (results_ct rfl _ _ w.heap.size (.agg #[.slice none 0 0, .slice none 0 0]) rfl (ldT (set2T H11.out.2 _ _))) rfl ?_
          exact ⟨none, 0, none, 0, rfl, tq_nil _ _ _, H11.out.1.trans (put_k2 _ w.heap.size _ _) (fun k e => .inr (by omega))⟩
        · obtain ⟨e0, e1, e2⟩ := HY.out (HD.out.2 hy)
          have HE12 : Hid (P0 = rP ys ∧ C0 = rC ys) := ⟨e1, e2⟩
          subst e0
          rw [if_neg hy] at HVv
          clear hy e1 e2
          go_wp2_with (first
            | (go_at_call 22; refine rd.mono ?_; rintro e w10 ⟨rfl, kn, hw10⟩; subst hw10; have vv := HVv.out kn; clear rd t0 t1; obtain ⟨t0, t1⟩ := bx2 (((Kept.refl No w9).drewN kn).at' H9.out.2.2.2.2.1 (fun h => h)))
            | (go_at_call 23; refine vv.mono ?_; rintro e w11 ⟨rfl, k11⟩; have H11 : Hid (Kept No w w11 ∧ w11.heap[w.heap.size]? = some (.cells #[.slice none 0 0, .slice none 0 0] 25) ∧ Kept No w9 w11) := ⟨H9.out.2.2.2.2.2.1.trans k11 (fun _ h => h.elim), k11.at' H9.out.2.2.2.1 (fun h => h), k11⟩; clear vv k11 t0 t1; obtain ⟨t0, t1⟩ := bx2 H11.out.2.1; obtain ⟨t2, t3⟩ := bx2 (H11.out.2.2.at' H9.out.2.2.2.2.1 (fun h => h)); have tf := tab_fz2 H11.out.2.1))
          clear t0 t1 t2 t3 tf
          refine bodyPost_ret (results_ct rfl _ _ w.heap.size (.agg #[.slice b0 (rP ys).length d0, .slice b1 (rC ys).length d1]) rfl (ldT (set2T H11.out.2.1 _ _))) rfl ?_
          have kx := put_k2 w11 w.heap.size (.slice b0 (rP ys).length d0) (.slice b1 (rC ys).length d1)
          have hs := kx.size
          have hs2 := H11.out.2.2.size
          have hs3 := H9.out.2.2.2.2.2.2
          obtain ⟨q1, q2⟩ := HE12.out
          subst q1 q2
          refine ⟨b0, d0, b1, d1, rfl, ?_, H11.out.1.trans kx (fun k e => .inr (by omega))⟩
          exact ⟨((H9.out.2.1.keep H11.out.2.2).kept kx (fun b h1 h2 => by omega)).mono (fun k hk => by omega), ((H9.out.2.2.1.keep H11.out.2.2).kept kx (fun b h1 h2 => by omega)).mono (fun k hk => by omega)⟩
      · have hmb : (8 + 5 * (rA ys + rB ys) == (ys.length : Int)) = false := by simp [hm]
        obtain ⟨e0, e1, e2⟩ := HN.out (fun q => by
          obtain ⟨r1, r2, _, _⟩ := r8_of (ys := ys) (by have := q.1; omega)
          rw [r1, r2] at hm
          have := q.1
          omega)
        subst e0 e1 e2
        have hml : (ys.length : Int) ≤ 4194304 := by omega
        obtain ⟨t0, t1⟩ := bx2 H4.out.2.1
        have tf := tab_fz2 H4.out.2.1
        clear HQ HY HN
        generalize rA ys = A at *
        generalize rB ys = B at *
        have hAB : ¬ (8 + 5 * (A + B) = (ys.length : Int)) := hm
        clear hm
        go_wp2
        clear t0 t1 tf
        refine bodyPost_ret (results_ct rfl _ _ w.heap.size (.agg #[.slice none 0 0, .slice none 0 0]) rfl (ldT (set2T H4.out.2.1 _ _))) rfl ?_
        exact ⟨none, 0, none, 0, rfl, tq_nil _ _ _, H4.out.1.trans (put_k2 _ w.heap.size _ _) (fun k e => .inr (by omega))⟩
    · obtain ⟨e0, e1, e2⟩ := dc_no h1 (fun q => hu q.1)
      rw [e0, e1, e2]
      have HU : Hid (∃ E, unsE 2 xs = E) := ⟨_, rfl⟩
      obtain ⟨E, hE⟩ := HU.out
      rw [hE] at u1 hu
      have hu' : (E != 0) = true := bne_iff_ne.2 hu
      clear h ka hb HU hE e0 e1 e2 hxl hlt h1 hlen
      go_enter Tryz.func5, Tryz.ntmps5
      go_wp2_with (go_at_call 19; refine u1.mono ?_; rintro e w1 ⟨a1, c1, rfl, hb1, hk1⟩; have H1 : Hid (Kept No w w1 ∧ w1.heap[w.heap.size]? = some (.cells #[.slice none 0 0, .slice none 0 0] 25)) := ⟨HA.out.1.trans hk1 (fun _ h => h.elim), hk1.at' HA.out.2 (fun h => h)⟩; clear hk1 u1 hb1; obtain ⟨t0, t1⟩ := bx2 H1.out.2; have tf := tab_fz2 H1.out.2)
      clear t0 t1 tf
      refine bodyPost_ret (results_ct rfl _ _ w.heap.size (.agg #[.slice none 0 0, .slice none 0 0]) rfl (ldT (set2T H1.out.2 _ _))) rfl ?_
      exact ⟨none, 0, none, 0, rfl, tq_nil _ _ _, H1.out.1.trans (put_k2 _ w.heap.size _ _) (fun k e => .inr (by omega))⟩
end Go.Proofs.YtkmpgcgdamcikaaGreatDoor

namespace Go.Proofs.YtkmpgcgdamcikaaGreatDoor
open Go.RowKit Go.Shelf Plain
set_option linter.unusedVariables false
set_option maxRecDepth 100000

/-- 'append([]byte{}, b...)' -/
theorem wpList_copy {w : World} {ops : Array Oper} {rest : List Oper} {o : Oper} {a : Act} {Q : Exit → Act → World → Prop} (hgd : o.guard = none) (s x : Operand)
    (ho : o.op = .call { callee := .builtin .append, args := #[s, x], argTypes := #[22, 22] }) (B : Nat) (v : Value) (hs : a.eval s = v) (hv : w.ownsRow B 5 1 v 0 []) (hB : B ≤ w.heap.size) (xa : Option Addr) (n c : Nat) (hx : a.eval x = .slice xa n c)
    (F : Nat → Prop) (xs : List Nat) (hz : Bs w F xa n c xs) (hn : n ≤ 140737488355328)
    (h : ∀ ya yc w', Hid (w'.ownsRow B 5 1 (.slice ya n yc) n (xs.map bv)) → Hid (Kept (fun k => v.ownBlock = some k) w w') → wpList Tryz.prog ops Q rest (a.put o.dst (.slice ya n yc)) w') : wpList Tryz.prog ops Q (o :: rest) a w := by
  obtain ⟨i0, hi, hz0, hz1, hz2⟩ := info_parts Tryz.info5
  cases xa with
  | none =>
    have hc0 := hz.nil rfl
    have hn0 : n = 0 := by have := hz.cap; omega
    have hx0 : xs = [] := List.eq_nil_of_length_eq_zero (by rw [hz.len]; exact hn0)
    subst hc0 hn0 hx0
    obtain ⟨va, vn, vc, rfl⟩ := own_slice hv
    have hvn : vn = 0 := by
      rcases owns_cells hv with ⟨h1, _⟩ | ⟨g, cap, h1, _⟩
      · injection h1
      · injection h1
    subst hvn
    refine wpList_append_own_none hgd s x 22 ho B 5 i0 1 Tryz.underlying22 hi _ _ _ hs hv hx ?_
    exact h va vc w hv (Kept.refl _ _)
  | some ad =>
    refine wpList_append_own _ hgd s x 22 ho B 5 i0 (.int .u8 0) 1 1 Tryz.underlying22 hi hz0 hz1 hz2 rfl (by decide) _ 0 [] hs hv ad n c (xs.map bv) hx (by rw [List.length_map, hz.len]; omega) hz.news (bv_one _) (by unfold maxLen; omega) (by omega) hB ?_
    intro v1 w1 own1 grow1 _
    rw [Nat.zero_add, List.nil_append] at own1
    obtain ⟨ya, yn, yc, rfl⟩ := own_slice own1
    have hyn : yn = n := by
      rcases owns_cells own1 with ⟨h1, h2⟩ | ⟨g, cap, h1, _⟩
      · injection h1 with _ h3 _; omega
      · injection h1
    subst hyn
    exact h ya yc w1 own1 ((Kept.refl (fun k => v.ownBlock = some k) w).grown grow1 (fun k e => .inl e))

/-- block g holds these bytes -/
structure Mn (w : World) (g zc : Nat) (L : List Nat) : Prop where
  lt : ∀ x ∈ L, x < 256
  cap : L.length ≤ zc
  max : zc ≤ 9223372036854775807
  hi : g < w.heap.size
  at' : ∀ j, j < L.length → w.cell? ⟨g, j, none⟩ = some (bv (L.getD j 0))
  fz : ∀ j, w.frozen? ⟨g, j, none⟩ = false
theorem Mn.kept {w w' : World} {g zc : Nat} {L : List Nat} {G : Nat → Prop} (h : Mn w g zc L) (k : Kept G w w') (hd : ¬ G g) : Mn w' g zc L :=
  ⟨h.lt, h.cap, h.max, Nat.lt_of_lt_of_le h.hi k.size, fun j hj => k.cell (h.at' j hj) hd, fun j => by
    have eb := k.block g h.hi hd
    have := h.fz j
    simp only [World.frozen?] at this ⊢
    rw [eb]; exact this⟩
theorem Mn.of_owns {w : World} {B : Nat} {a : Option Addr} {n c : Nat} {L : List Nat} (h : w.ownsRow B 5 1 (.slice a n c) n (L.map bv)) (hl : L.length = n) (hb : ∀ x ∈ L, x < 256) (hn : 0 < n) : ∃ g, a = some ⟨g, 0, none⟩ ∧ B ≤ g ∧ Mn w g c L := by
  rcases owns_cells h with ⟨h1, h2⟩ | ⟨g, cap, h1, h2, h3, h4, h5, h6, h7⟩
  · omega
  · injection h1 with h1 _ h8
    subst h1 h8
    refine ⟨g, rfl, h2, hb, by omega, by unfold maxLen at h5; omega, h3, fun j hj => ?_, h7⟩
    exact h6 j _ (bv_get hj)
theorem Mn.bs {w : World} {g zc : Nat} {L : List Nat} (h : Mn w g zc L) (n : Nat) (hn : n ≤ L.length) : Bs w (fun k => k = g) (some ⟨g, 0, none⟩) n zc (L.take n) :=
  ⟨by rw [List.length_take]; omega, by have := h.cap; omega, h.max, fun e => (by cases e), fun i hi => ⟨g, 0, rfl, rfl, by
    rw [Nat.zero_add, h.at' i (by omega)]
    simp [List.getD, hi]⟩, fun x hx => h.lt x (List.mem_of_mem_take hx)⟩
theorem Mn.put {w : World} {g zc : Nat} {L : List Nat} (h : Mn w g zc L) (i y : Nat) (hi : i < L.length) (hy : y < 256) : Mn (w.setCell ⟨g, i, none⟩ (.int .u8 (y : Nat))) g zc (L.set i y) := by
  refine ⟨fun x hx => ?_, by rw [List.length_set]; exact h.cap, h.max, by simpa [World.setCell] using h.hi, fun j hj => ?_, fun j => by rw [World.frozen?_setCell]; exact h.fz j⟩
  · rcases List.mem_or_eq_of_mem_set hx with h1 | h1
    · exact h.lt x h1
    · rw [h1]; exact hy
  · rw [List.length_set] at hj
    by_cases hji : j = i
    · subst hji
      rw [World.cell?_setCell_same _ _ _ (h.at' j hj)]
      simp [List.getD, hj, bv]
    · rw [World.cell?_setCell_other _ _ _ _ (fun e => by injection e; omega), h.at' j hj]
      simp [List.getD, Ne.symm hji]

/-- the first k bytes turned -/
def trn (L : List Nat) (k : Nat) : List Nat := (L.take k).map (fun x => x ^^^ 255) ++ L.drop k
theorem trn_zero (L : List Nat) : trn L 0 = L := by simp [trn]
theorem trn_len (L : List Nat) (k : Nat) : (trn L k).length = L.length := by simp [trn]; omega
theorem trn_get (L : List Nat) (k : Nat) (hk : k < L.length) : (trn L k).getD k 0 = L.getD k 0 := by
  have hl : ((L.take k).map (fun x => x ^^^ 255)).length = k := by simp; omega
  unfold trn
  simp only [List.getD]
  rw [List.getElem?_append_right (by omega), hl, Nat.sub_self, List.getElem?_drop, Nat.add_zero]
theorem trn_succ (L : List Nat) (k : Nat) (hk : k < L.length) : (trn L k).set k (L.getD k 0 ^^^ 255) = trn L (k + 1) := by
  have hl : ((L.take k).map (fun x => x ^^^ 255)).length = k := by simp; omega
  unfold trn
  rw [List.set_append_right _ _ (by omega), hl, Nat.sub_self]
  have e1 : L.take (k + 1) = L.take k ++ [L.getD k 0] := by rw [List.take_add_one]; simp [List.getD, hk]
  have e2 : L.drop k = L.getD k 0 :: L.drop (k + 1) := by rw [List.drop_eq_getElem_cons hk]; simp [List.getD, hk]
  rw [e1, e2]
  simp
theorem trn_lt {L : List Nat} (h : ∀ x ∈ L, x < 256) (k : Nat) : ∀ x ∈ trn L k, x < 256 := by
  intro x hx
  unfold trn at hx
  rcases List.mem_append.1 hx with hx | hx
  · obtain ⟨y, hy, rfl⟩ := List.mem_map.1 hx
    exact Nat.xor_lt_two_pow (n := 8) (h y (List.mem_of_mem_take hy)) (by decide)
  · exact h x (List.mem_of_mem_drop hx)
theorem xor255 (x : Nat) (hx : x < 256) : bits .xor .u8 (x : Int) 255 = ((x ^^^ 255 : Nat) : Int) := u8_xor_nat x 255 hx (by decide)

set_option maxHeartbeats 2000000 in
theorem sameB_yes {F G : Nat → Prop} {a a2 : Option Addr} {n c c2 : Nat} {xs : List Nat} (w : World) (h : Bs w F a n c xs) (h2 : Bs w G a2 n c2 xs) :
    Calls Tryz.prog 7 #[.slice a n c, .slice a2 n c2] w fun e w' => e = .returned (.bool true) ∧ Kept No w w' := by
  have HS : Hid (Bs w F a n c xs ∧ Bs w G a2 n c2 xs) := ⟨h, h2⟩
  have hcap := h.cap
  have hmax := h.max
  have hcap2 := h2.cap
  have hmax2 := h2.max
  clear h h2
  go_enter Tryz.func7, Tryz.ntmps7
  go_wp2
  go_loopw [5] (fun x wr => ∃ k : Nat, k ≤ n ∧ x = .int .i64 k ∧ Kept No w wr) (fun x _ => n - (intOf x).toNat)
  case atStart => exact ⟨0, Nat.zero_le _, rfl, Kept.refl No w⟩
  case round =>
    obtain ⟨k, hk, rfl, hkr⟩ := hrel
    have HKR : Hid (Kept No w wr) := hkr
    clear hkr
    by_cases hlt : k < n
    · have hltz : (k : Int) < (n : Int) := by omega
      obtain ⟨b, o, rfl, _, e0⟩ := HS.out.1.at' k hlt
      obtain ⟨b2, o2, rfl, _, d0⟩ := HS.out.2.at' k hlt
      have e0' := HKR.out.cell e0 (fun h => h)
      have d0' := HKR.out.cell d0 (fun h => h)
      unfold bv at e0' d0'
      generalize xs.getD k 0 = y0 at *
      clear e0 d0
      go_upto_region 6 with fail
      go_quiet (fail)
      clear e0' d0'
      go_wp2
      go_roundw
      case rel => exact ⟨k + 1, by omega, by go_num, HKR.out.drewN _⟩
      case measure => simp [intOf]; omega
    · have hltz : ¬ (k : Int) < (n : Int) := by omega
      clear hk
      go_wp2
      go_ret
      exact ⟨rfl, HKR.out⟩

/-- what lies beside the bytes: the argument, two tables that were read and the document's -/
structure Al (w0 w : World) (G : Nat → Prop) (ba : Option Addr) (n bc : Nat) (xs : List Nat) (g : Nat) (P C : List (Nat × Nat)) (a0 a1 b0 b1 : Option Addr) (c0 c1 h1 h2 : Nat) (B3 B4 : Nat) : Prop where
  arg : Bs w G ba n bc xs
  argF : ∀ k, G k → k < w0.heap.size
  t : Tq w (g + 1) h1 a0 P.length a1 C.length P C
  tw : Wq w (g + 1) h1 a0 a1 P.length C.length
  u : Tq w h1 h2 b0 c0 b1 c1 P C
  x3 : w.heap[B3]? = some (.cells #[.slice a0 P.length P.length, .slice a1 C.length C.length] 25)
  x4 : w.heap[B4]? = some (.cells #[.slice b0 P.length c0, .slice b1 C.length c1] 25)
  kp : Kept No w0 w
  lo : w0.heap.size ≤ g
  g1 : g + 1 ≤ h1
  g2 : h1 ≤ h2
  g3 : h2 ≤ w.heap.size
  s3 : g < B3
  s4 : g < B4
theorem Al.kept {w0 w w' : World} {G : Nat → Prop} {ba : Option Addr} {n bc : Nat} {xs : List Nat} {g : Nat} {P C : List (Nat × Nat)} {a0 a1 b0 b1 : Option Addr} {c0 c1 h1 h2 B3 B4 : Nat} (h : Al w0 w G ba n bc xs g P C a0 a1 b0 b1 c0 c1 h1 h2 B3 B4) (k : Kept (fun j => j = g) w w') : Al w0 w' G ba n bc xs g P C a0 a1 b0 b1 c0 c1 h1 h2 B3 B4 := by
  have e1 := h.g1
  have e2 := h.g2
  have e3 := h.s3
  have e4 := h.s4
  have e5 := h.lo
  refine ⟨h.arg.kept k (fun b hb e => by have := h.argF b hb; omega), h.argF, h.t.kept k (fun b q1 q2 e => by omega), h.tw.kept k (fun b q1 q2 e => by omega), h.u.kept k (fun b q1 q2 e => by omega), k.at' h.x3 (fun e => by omega), k.at' h.x4 (fun e => by omega), h.kp.trans k (fun b e => .inr (by omega)), h.lo, h.g1, h.g2, Nat.le_trans h.g3 k.size, h.s3, h.s4⟩
theorem Al.keep {w0 w w' : World} {G : Nat → Prop} {ba : Option Addr} {n bc : Nat} {xs : List Nat} {g : Nat} {P C : List (Nat × Nat)} {a0 a1 b0 b1 : Option Addr} {c0 c1 h1 h2 B3 B4 : Nat} (h : Al w0 w G ba n bc xs g P C a0 a1 b0 b1 c0 c1 h1 h2 B3 B4) (k : Kept No w w') : Al w0 w' G ba n bc xs g P C a0 a1 b0 b1 c0 c1 h1 h2 B3 B4 := h.kept (k.mono (fun _ h => h.elim))
end Go.Proofs.YtkmpgcgdamcikaaGreatDoor
