/-
  One text: AOb, AFe.
-/
import Derived.Test.YtggejpccjmolhaaGreatDoorG33
import Derived.Test.YtggejpccjmolhaaGreatDoorG23
namespace Go.Proofs.YtggejpccjmolhaaGreatDoor
open Go.RowKit Plain
set_option linter.unusedVariables false
set_option linter.unusedSimpArgs false
set_option maxRecDepth 100000

/-- are all of the first n so? -/
def allF (p : Nat → Bool) : Nat → Bool
  | 0 => true
  | k + 1 => allF p k && p k
theorem allF_no {p : Nat → Bool} {k : Nat} (h : p k = false) : ∀ n, k < n → allF p n = false
  | 0, hn => by omega
  | n + 1, hn => by
    rcases Nat.lt_or_eq_of_le (Nat.lt_succ_iff.1 hn) with h1 | h1
    · rw [allF, allF_no h n h1]; rfl
    · subst h1; rw [allF, h, Bool.and_false]
def dSm : Sm := ⟨0, 0⟩
def dBf : Bf := ⟨0, 0⟩
def smP (xs : List Sm) (i : Nat) : Bool := inB (xs.getD i dSm).mx 1 2147483647 && inB (xs.getD i dSm).st 0 (xs.getD i dSm).mx
def bfP (xs : List Bf) (i : Nat) : Bool := inB (xs.getD i dBf).sz 1 16 && inB (xs.getD i dBf).dp 1 64

set_option maxHeartbeats 16000000 in
theorem robjects_any (F : Nat → Prop) (cs : List Value) (a : Option Addr) (n c : Nat) (xs : List Sm) (b : Option Addr) (m d : Nat) (ys : List Bf) (w : World) (h18 : cs[18]? = some (.slice a n c)) (h20 : cs[20]? = some (.slice b m d)) (hL : Ls 2 elSm w F a n c xs) (hM : Ls 2 elBf w F b m d ys) :
    Calls Tryz.prog 33 #[.agg cs.toArray] w fun e w' => e = .returned (.bool (allF (smP xs) n && allF (bfP ys) m)) ∧ Kept No w w' := by
  have hn : n ≤ 9223372036854775807 := Nat.le_trans hL.cap hL.max
  have hm : m ≤ 9223372036854775807 := Nat.le_trans hM.cap hM.max
  have HK : Hid (Kept No w (w.alloc (.cells cs.toArray 59))) := (Kept.refl No w).alloc _
  have D18 : Hid (∀ W, Kept No (w.alloc (.cells cs.toArray 59)) W → W.cell? ⟨w.heap.size, 18, none⟩ = some (.slice a n c)) := fun W k => k.cell (pn_cell w cs 59 18 _ h18) (fun h => h)
  have D20 : Hid (∀ W, Kept No (w.alloc (.cells cs.toArray 59)) W → W.cell? ⟨w.heap.size, 20, none⟩ = some (.slice b m d)) := fun W k => k.cell (pn_cell w cs 59 20 _ h20) (fun h => h)
  have HL : Hid (Ls 2 elSm w F a n c xs) := hL
  have HM : Hid (Ls 2 elBf w F b m d ys) := hM
  clear h18 h20 hL hM
  go_enter Tryz.func33, Tryz.ntmps33
  go_upto_region 1 with fail
  generalize w.alloc (.cells cs.toArray 59) = w1 at *
  go_wp2
  go_loopw [3] (fun i wr => ∃ k : Nat, k ≤ n ∧ i = .int .i64 k ∧ Kept No w1 wr ∧ allF (smP xs) k = true) (fun i _ => n - (intOf i).toNat)
  case atStart => exact ⟨0, by omega, rfl, Kept.refl _ _, rfl⟩
  case round =>
    obtain ⟨k, hk, rfl, K, hb⟩ := hrel
    have HB : Hid (allF (smP xs) k = true) := hb
    have HKr : Hid (Kept No w1 wr) := K
    clear hb
    have d18 := D18.out wr K
    by_cases hlt : k < n
    · have hx : xs[k]? = some (xs.getD k dSm) := by rw [List.getD, List.getElem?_eq_getElem (by rw [HL.out.len]; exact hlt)]; rfl
      obtain ⟨bb, oo, ds, rfl, _, _, hr, hE⟩ := HL.out.at' k _ hx
      have hE1 := hE.1
      subst hE1
      have KA := HK.out.trans K (fun _ h => h.elim)
      have c0 := KA.cell (hr 0 _ rfl) (fun h => h)
      have c1 := KA.cell (hr 1 _ rfl) (fun h => h)
      rw [Nat.add_zero] at c0
      have HS : Hid (allF (smP xs) (k + 1) = (allF (smP xs) k && (inB (xs.getD k dSm).mx 1 2147483647 && inB (xs.getD k dSm).st 0 (xs.getD k dSm).mx))) := rfl
      have HN : Hid ((inB (xs.getD k dSm).mx 1 2147483647 && inB (xs.getD k dSm).st 0 (xs.getD k dSm).mx) = false → allF (smP xs) n = false) := fun h => allF_no (p := smP xs) h n hlt
      have hgk : (k : Int) < (n : Int) := by omega
      generalize xs.getD k dSm = z at *
      obtain ⟨z0, z1⟩ := z
      simp only at c0 c1 HS HN
      clear K KA hr hE hx
      cases g0 : inB z1 1 2147483647
      · have HN2 : Hid (allF (smP xs) n = false) := HN.out (by rw [g0]; rfl)
        go_wp2
        go_quiet ((go_at_call 29; refine Calls.quiet_of_same (rwithin_any _ _ _ _)))
        go_wp2
        go_ret
        exact ⟨by rw [HN2.out]; rfl, HK.out.trans (HKr.out.drewN _) (fun _ h => h.elim)⟩
      · cases g1 : inB z0 0 z1
        · have HN2 : Hid (allF (smP xs) n = false) := HN.out (by rw [g0, g1]; rfl)
          go_wp2
          go_quiet ((go_at_call 29; refine Calls.quiet_of_same (rwithin_any _ _ _ _)))
          go_wp2
          go_ret
          exact ⟨by rw [HN2.out]; rfl, HK.out.trans (HKr.out.drewN _) (fun _ h => h.elim)⟩
        · have HY : Hid (allF (smP xs) (k + 1) = true) := HS.out.trans (by rw [HB.out, g0, g1]; rfl)
          go_wp2
          go_quiet ((go_at_call 29; refine Calls.quiet_of_same (rwithin_any _ _ _ _)))
          go_wp2
          go_roundw
          case rel => exact ⟨k + 1, by omega, by go_num, HKr.out.drewN _, HY.out⟩
          case measure => simp [intOf]; omega
    · have hkn : k = n := by omega
      subst hkn
      clear K
      have HB1 : Hid (allF (smP xs) k = true) := HB.out
      have HK1 : Hid (Kept No w1 wr) := HKr.out
      go_wp2
      clear d18
      generalize wr = wo at *
      go_loopw [4] (fun i wq => ∃ q : Nat, q ≤ m ∧ i = .int .i64 q ∧ Kept No w1 wq ∧ allF (bfP ys) q = true) (fun i _ => m - (intOf i).toNat)
      case atStart => exact ⟨0, by omega, rfl, HK1.out, rfl⟩
      case round =>
        obtain ⟨q, hq, rfl, K, hb⟩ := hrel
        have HC : Hid (allF (bfP ys) q = true) := hb
        have HKq : Hid (Kept No w1 wr) := K
        clear hb
        have d20 := D20.out wr K
        by_cases hlt : q < m
        · have hx : ys[q]? = some (ys.getD q dBf) := by rw [List.getD, List.getElem?_eq_getElem (by rw [HM.out.len]; exact hlt)]; rfl
          obtain ⟨bb, oo, ds, rfl, _, _, hr, hE⟩ := HM.out.at' q _ hx
          have hE1 := hE.1
          subst hE1
          have KA := HK.out.trans K (fun _ h => h.elim)
          have c0 := KA.cell (hr 0 _ rfl) (fun h => h)
          have c1 := KA.cell (hr 1 _ rfl) (fun h => h)
          rw [Nat.add_zero] at c0
          have HS : Hid (allF (bfP ys) (q + 1) = (allF (bfP ys) q && (inB (ys.getD q dBf).sz 1 16 && inB (ys.getD q dBf).dp 1 64))) := rfl
          have HN : Hid ((inB (ys.getD q dBf).sz 1 16 && inB (ys.getD q dBf).dp 1 64) = false → allF (bfP ys) m = false) := fun h => allF_no (p := bfP ys) h m hlt
          have hgk : (q : Int) < (m : Int) := by omega
          generalize ys.getD q dBf = z at *
          obtain ⟨z0, z1⟩ := z
          simp only at c0 c1 HS HN
          clear K KA hr hE hx
          cases g0 : inB z0 1 16
          · have HN2 : Hid (allF (bfP ys) m = false) := HN.out (by rw [g0]; rfl)
            go_wp2_with (go_at_call 29; refine (rwithin_any _ _ _ _).mono ?_; rintro e w' ⟨rfl, rfl⟩)
            go_ret
            exact ⟨by rw [HN2.out, Bool.and_false]; rfl, HK.out.trans HKq.out (fun _ h => h.elim)⟩
          · cases g1 : inB z1 1 64
            · have HN2 : Hid (allF (bfP ys) m = false) := HN.out (by rw [g0, g1]; rfl)
              go_wp2_with (go_at_call 29; refine (rwithin_any _ _ _ _).mono ?_; rintro e w' ⟨rfl, rfl⟩)
              go_ret
              exact ⟨by rw [HN2.out, Bool.and_false]; rfl, HK.out.trans HKq.out (fun _ h => h.elim)⟩
            · have HY : Hid (allF (bfP ys) (q + 1) = true) := HS.out.trans (by rw [HC.out, g0, g1]; rfl)
              go_wp2_with (go_at_call 29; refine (rwithin_any _ _ _ _).mono ?_; rintro e w' ⟨rfl, rfl⟩)
              go_roundw
              case rel => exact ⟨q + 1, by omega, by go_num, HKq.out, HY.out⟩
              case measure => simp [intOf]; omega
        · have hqm : q = m := by omega
          subst hqm
          clear K
          go_wp2
          go_ret
          exact ⟨by rw [HB1.out, HC.out]; rfl, HK.out.trans HKq.out (fun _ h => h.elim)⟩
end Go.Proofs.YtggejpccjmolhaaGreatDoor

namespace Go.Proofs.YtggejpccjmolhaaGreatDoor
open Go.RowKit Plain
set_option linter.unusedVariables false
set_option linter.unusedSimpArgs false
set_option maxRecDepth 100000

theorem any_take_succ {α : Type} {L : List α} {p : α → Bool} {d : α} {k : Nat} (hk : k < L.length) : (L.take (k + 1)).any p = ((L.take k).any p || p (L.getD k d)) := by
  rw [List.take_add_one, List.any_append]
  have : L[k]? = some (L.getD k d) := by rw [List.getD, List.getElem?_eq_getElem hk]; rfl
  rw [this]
  simp
theorem any_take_hit {α : Type} {L : List α} {p : α → Bool} {d : α} {k n : Nat} (hk : k < n) (hn : n ≤ L.length) (h : p (L.getD k d) = true) : (L.take n).any p = true := by
  rw [List.any_eq_true]
  refine ⟨L.getD k d, ?_, h⟩
  have : L[k]? = some (L.getD k d) := by rw [List.getD, List.getElem?_eq_getElem (by omega)]; rfl
  exact List.mem_of_getElem? (i := k) (by rw [List.getElem?_take, if_pos hk]; exact this)

set_option maxHeartbeats 8000000 in
theorem fed_out (F : Nat → Prop) (v0 v1 : Value) (a : Option Addr) (n c : Nat) (L : List Ch) (m : Nat) (port : Int) (w : World) (hm : m ≤ n) (hL : Ls 5 elCh w F a n c L) :
    Calls Tryz.prog 45 #[.agg #[v0, v1, .slice a n c], .int .i64 (m : Int), .int .i64 port, .bool true] w fun e w' => e = .returned (.bool ((L.take m).any fun o => o.fr == port)) ∧ Kept No w w' := by
  have hn : n ≤ 9223372036854775807 := Nat.le_trans hL.cap hL.max
  have HK : Hid (Kept No w (w.alloc (.cells #[v0, v1, .slice a n c] 26))) := (Kept.refl No w).alloc _
  have D2 : Hid (∀ W, Kept No (w.alloc (.cells #[v0, v1, .slice a n c] 26)) W → W.cell? ⟨w.heap.size, 2, none⟩ = some (.slice a n c)) := fun W k => k.cell (by simp) (fun h => h)
  have HL : Hid (Ls 5 elCh w F a n c L) := hL
  have hlen : L.length = n := hL.len
  clear hL
  go_enter Tryz.func45, Tryz.ntmps45
  go_upto_region 1 with fail
  generalize w.alloc (.cells #[v0, v1, .slice a n c] 26) = w1 at *
  go_wp2
  go_loopw [9] (fun i wr => ∃ k : Nat, k ≤ m ∧ i = .int .i64 k ∧ Kept No w1 wr ∧ ((L.take k).any fun o => o.fr == port) = false) (fun i _ => m - (intOf i).toNat)
  case atStart => exact ⟨0, by omega, rfl, Kept.refl _ _, by simp⟩
  case round =>
    obtain ⟨k, hk, rfl, K, hb⟩ := hrel
    have HB : Hid (((L.take k).any fun o => o.fr == port) = false) := hb
    have HKr : Hid (Kept No w1 wr) := K
    clear hb
    have d2 := D2.out wr K
    by_cases hlt : k < m
    · have hkn : k < n := by omega
      have hx : L[k]? = some (L.getD k dCh) := by rw [List.getD, List.getElem?_eq_getElem (by omega)]; rfl
      obtain ⟨bb, oo, ds, rfl, _, _, hr, hE⟩ := HL.out.at' k _ hx
      obtain ⟨ta, tn, tc, rfl, hT⟩ := hE.sl
      have KA := HK.out.trans K (fun _ h => h.elim)
      have c0 := KA.cell (hr 0 _ rfl) (fun h => h)
      have c1 := KA.cell (hr 1 _ rfl) (fun h => h)
      have c2 := KA.cell (hr 2 _ rfl) (fun h => h)
      have c3 := KA.cell (hr 3 _ rfl) (fun h => h)
      have c4 := KA.cell (hr 4 _ rfl) (fun h => h)
      rw [Nat.add_zero] at c0
      have HS : Hid (((L.take (k + 1)).any fun o => o.fr == port) = (((L.take k).any fun o => o.fr == port) || ((L.getD k dCh).fr == port))) := any_take_succ (d := dCh) (by omega)
      have HN : Hid (((L.getD k dCh).fr == port) = true → ((L.take m).any fun o => o.fr == port) = true) := fun h => any_take_hit (p := fun o => o.fr == port) (d := dCh) hlt (by omega) h
      have hgk : (k : Int) < (n : Int) := by omega
      have hgm : (k : Int) < (m : Int) := by omega
      have HKA : Hid (∀ o, Kept No w1 (wr.alloc o)) := fun o => HKr.out.alloc o
      generalize L.getD k dCh = z at *
      obtain ⟨z0, z1, z2, z3, z4⟩ := z
      simp only at c0 c1 c2 c3 c4 HS HN
      clear K KA hr hE hT hx
      by_cases g : z1 = port
      · subst g
        have HN2 : Hid (((L.take m).any fun o => o.fr == z1) = true) := HN.out (by simp)
        go_wp2
        go_ret
        exact ⟨by rw [HN2.out]; rfl, HK.out.trans (HKA.out _) (fun _ h => h.elim)⟩
      · have g1 : (z1 == port) = false := by simpa using g
        have HY : Hid (((L.take (k + 1)).any fun o => o.fr == port) = false) := HS.out.trans (by rw [HB.out, g1]; rfl)
        have b2 : (wr.alloc (.cells #[.int .i64 z0, .int .i64 z1, .slice ta tn tc, .int .i64 z3, .int .i64 z4] 34)).cell? ⟨wr.heap.size, 2, none⟩ = some (.slice ta tn tc) := by simp
        have HKB : Hid (Kept No w1 (wr.alloc (.cells #[.int .i64 z0, .int .i64 z1, .slice ta tn tc, .int .i64 z3, .int .i64 z4] 34))) := HKA.out _
        have hD2 : Hid ((wr.alloc (.cells #[.int .i64 z0, .int .i64 z1, .slice ta tn tc, .int .i64 z3, .int .i64 z4] 34)).cell? ⟨w.heap.size, 2, none⟩ = some (.slice (some ⟨bb, oo, none⟩) n c)) := D2.out _ HKB.out
        go_upto_region 7 with fail
        clear c0 c1 c2 c3 c4 d2 HKA
        generalize wr.alloc (.cells #[.int .i64 z0, .int .i64 z1, .slice ta tn tc, .int .i64 z3, .int .i64 z4] 34) = wo at *
        generalize wr.heap.size = gb at *
        go_wp2
        go_loopw [11] (fun i wq => i = .int .i64 0 ∧ wq = wo) (fun _ _ => 0)
        case atStart => exact ⟨rfl, rfl⟩
        case round =>
          obtain ⟨rfl, rfl⟩ := hrel
          have dd := hD2.out
          by_cases ht : 0 < tn
          · have ht2 : (0 : Int) < (tn : Int) := by omega
            go_wp2
            go_roundw
            case rel => exact ⟨k + 1, by omega, by go_num, HKB.out, HY.out⟩
            case measure => simp [intOf]; omega
          · have ht2 : tn = 0 := by omega
            subst ht2
            go_wp2
            go_roundw
            case rel => exact ⟨k + 1, by omega, by go_num, HKB.out, HY.out⟩
            case measure => simp [intOf]; omega
    · have hkm : k = m := by omega
      subst hkm
      clear K
      go_wp2
      go_ret
      exact ⟨by rw [HB.out]; rfl, HK.out.trans HKr.out (fun _ h => h.elim)⟩
set_option maxHeartbeats 8000000 in
theorem fed_in (F : Nat → Prop) (v0 v1 : Value) (a : Option Addr) (n c : Nat) (L : List Ch) (m : Nat) (port : Int) (w : World) (hm : m ≤ n) (hL : Ls 5 elCh w F a n c L) :
    Calls Tryz.prog 45 #[.agg #[v0, v1, .slice a n c], .int .i64 (m : Int), .int .i64 port, .bool false] w fun e w' => e = .returned (.bool ((L.take m).any fun o => o.dst.any fun x => x == port)) ∧ Kept No w w' := by
  have hn : n ≤ 9223372036854775807 := Nat.le_trans hL.cap hL.max
  have HK : Hid (Kept No w (w.alloc (.cells #[v0, v1, .slice a n c] 26))) := (Kept.refl No w).alloc _
  have D2 : Hid (∀ W, Kept No (w.alloc (.cells #[v0, v1, .slice a n c] 26)) W → W.cell? ⟨w.heap.size, 2, none⟩ = some (.slice a n c)) := fun W k => k.cell (by simp) (fun h => h)
  have HL : Hid (Ls 5 elCh w F a n c L) := hL
  have hlen : L.length = n := hL.len
  clear hL
  go_enter Tryz.func45, Tryz.ntmps45
  go_upto_region 1 with fail
  generalize w.alloc (.cells #[v0, v1, .slice a n c] 26) = w1 at *
  go_wp2
  go_loopw [9] (fun i wr => ∃ k : Nat, k ≤ m ∧ i = .int .i64 k ∧ Kept No w1 wr ∧ ((L.take k).any fun o => o.dst.any fun x => x == port) = false) (fun i _ => m - (intOf i).toNat)
  case atStart => exact ⟨0, by omega, rfl, Kept.refl _ _, by simp⟩
  case round =>
    obtain ⟨k, hk, rfl, K, hb⟩ := hrel
    have HB : Hid (((L.take k).any fun o => o.dst.any fun x => x == port) = false) := hb
    have HKr : Hid (Kept No w1 wr) := K
    clear hb
    have d2 := D2.out wr K
    by_cases hlt : k < m
    · have hkn : k < n := by omega
      have hx : L[k]? = some (L.getD k dCh) := by rw [List.getD, List.getElem?_eq_getElem (by omega)]; rfl
      obtain ⟨bb, oo, ds, rfl, _, _, hr, hE⟩ := HL.out.at' k _ hx
      obtain ⟨ta, tn, tc, rfl, hT⟩ := hE.sl
      have KA := HK.out.trans K (fun _ h => h.elim)
      have c0 := KA.cell (hr 0 _ rfl) (fun h => h)
      have c1 := KA.cell (hr 1 _ rfl) (fun h => h)
      have c2 := KA.cell (hr 2 _ rfl) (fun h => h)
      have c3 := KA.cell (hr 3 _ rfl) (fun h => h)
      have c4 := KA.cell (hr 4 _ rfl) (fun h => h)
      rw [Nat.add_zero] at c0
      have HS : Hid (((L.take (k + 1)).any fun o => o.dst.any fun x => x == port) = (((L.take k).any fun o => o.dst.any fun x => x == port) || ((L.getD k dCh).dst.any fun x => x == port))) := any_take_succ (d := dCh) (by omega)
      have HN : Hid (((L.getD k dCh).dst.any fun x => x == port) = true → ((L.take m).any fun o => o.dst.any fun x => x == port) = true) := fun h => any_take_hit (p := fun o => o.dst.any fun x => x == port) (d := dCh) hlt (by omega) h
      have hgk : (k : Int) < (n : Int) := by omega
      have hgm : (k : Int) < (m : Int) := by omega
      have HKA : Hid (∀ o, Kept No w1 (wr.alloc o)) := fun o => HKr.out.alloc o
      generalize L.getD k dCh = z at *
      obtain ⟨z0, z1, z2, z3, z4⟩ := z
      simp only at c0 c1 c2 c3 c4 HS HN
      have hT0 := hT
      clear K KA hr hE hT hx
      have b2 : (wr.alloc (.cells #[.int .i64 z0, .int .i64 z1, .slice ta tn tc, .int .i64 z3, .int .i64 z4] 34)).cell? ⟨wr.heap.size, 2, none⟩ = some (.slice ta tn tc) := by simp
      have HKB : Hid (Kept No w1 (wr.alloc (.cells #[.int .i64 z0, .int .i64 z1, .slice ta tn tc, .int .i64 z3, .int .i64 z4] 34))) := HKA.out _
      have HT : Hid (Ls 1 elI w F ta tn tc z2) := hT0
      clear hT0
      have htn := HT.out.len
      have htm : tn ≤ 9223372036854775807 := Nat.le_trans HT.out.cap HT.out.max
      go_upto_region 7 with fail
      clear c0 c1 c2 c3 c4 d2 HKA
      generalize wr.alloc (.cells #[.int .i64 z0, .int .i64 z1, .slice ta tn tc, .int .i64 z3, .int .i64 z4] 34) = wo at *
      generalize wr.heap.size = gb at *
      have HB2 : Hid (wo.cell? ⟨gb, 2, none⟩ = some (.slice ta tn tc)) := b2
      go_wp2
      clear b2
      go_loopw [11] (fun i wq => ∃ q : Nat, q ≤ tn ∧ i = .int .i64 q ∧ wq = wo ∧ ((z2.take q).any fun x => x == port) = false) (fun i _ => tn - (intOf i).toNat)
      case atStart => exact ⟨0, by omega, rfl, rfl, by simp⟩
      case round =>
        obtain ⟨q, hq, rfl, rfl, hqb⟩ := hrel
        have HQB : Hid (((z2.take q).any fun x => x == port) = false) := hqb
        clear hqb
        have b2 := HB2.out
        by_cases hqt : q < tn
        · have hy : z2[q]? = some (z2.getD q 0) := by rw [List.getD, List.getElem?_eq_getElem (by omega)]; rfl
          obtain ⟨tb, to', es, rfl, _, _, hrr, hEE⟩ := HT.out.at' q _ hy
          have hE1 := hEE.1
          subst hE1
          have e0 := (HK.out.trans HKB.out (fun _ h => h.elim)).cell (hrr 0 _ rfl) (fun h => h)
          rw [Nat.add_zero, Nat.mul_one] at e0
          have HQS : Hid (((z2.take (q + 1)).any fun x => x == port) = (((z2.take q).any fun x => x == port) || (z2.getD q 0 == port))) := any_take_succ (d := (0 : Int)) (by omega)
          have HQN : Hid ((z2.getD q 0 == port) = true → (z2.any fun x => x == port) = true) := fun h => by
            have := any_take_hit (p := fun x => x == port) (d := (0 : Int)) (n := z2.length) (by omega) (Nat.le_refl _) h
            rw [List.take_length] at this
            exact this
          have hgq : (q : Int) < (tn : Int) := by omega
          generalize z2.getD q 0 = y at *
          clear hrr hEE hy
          by_cases gy : y = port
          · subst gy
            have HN2 : Hid (((L.take m).any fun o => o.dst.any fun x => x == y) = true) := HN.out (HQN.out (by simp))
            go_wp2
            go_ret
            exact ⟨by rw [HN2.out]; rfl, HK.out.trans HKB.out (fun _ h => h.elim)⟩
          · have gy1 : (y == port) = false := by simpa using gy
            have HQY : Hid (((z2.take (q + 1)).any fun x => x == port) = false) := HQS.out.trans (by rw [HQB.out, gy1]; rfl)
            go_wp2
            go_roundw
            case rel => exact ⟨q + 1, by omega, by go_num, trivial, HQY.out⟩
            case measure => simp [intOf]; omega
        · have hqe : q = tn := by omega
          subst hqe
          have HY : Hid (((L.take (k + 1)).any fun o => o.dst.any fun x => x == port) = false) := HS.out.trans (by
            have h := HQB.out
            rw [← htn, List.take_length] at h
            rw [HB.out, h]; rfl)
          go_wp2
          go_roundw
          case rel => exact ⟨k + 1, by omega, by go_num, HKB.out, HY.out⟩
          case measure => simp [intOf]; omega
    · have hkm : k = m := by omega
      subst hkm
      clear K
      go_wp2
      go_ret
      exact ⟨by rw [HB.out]; rfl, HK.out.trans HKr.out (fun _ h => h.elim)⟩
end Go.Proofs.YtggejpccjmolhaaGreatDoor
