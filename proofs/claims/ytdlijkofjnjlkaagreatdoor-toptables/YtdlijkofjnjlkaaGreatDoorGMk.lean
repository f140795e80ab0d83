/-
  One text: CRef, CRef2, SSame, SApart, SMkA.
-/
import Derived.Test.YtdlijkofjnjlkaaGreatDoorCHyp
import Derived.Test.YtdlijkofjnjlkaaGreatDoorNLcmR
import Derived.Test.YtdlijkofjnjlkaaGreatDoorCHyp2
import Derived.Test.YtdlijkofjnjlkaaGreatDoorGMake
import Derived.Lib.AppendZerosOnto
namespace Go.Proofs.YtdlijkofjnjlkaaGreatDoor
open Go.RowKit Plain
set_option linter.unusedVariables false
set_option maxRecDepth 100000
set_option linter.unusedSimpArgs false

theorem rwithin_any (n lo hi : Int) (w : World) :
    Calls Tryz.prog 54 #[.int .i64 n, .int .i64 lo, .int .i64 hi] w fun e w' => e = .returned (.bool (inB n lo hi)) ∧ w' = w := by
  by_cases h : lo ≤ n
  · by_cases h2 : n ≤ hi
    · rw [show inB n lo hi = true by simp [inB, h, h2]]
      go_enter Tryz.func54, Tryz.ntmps54
      go_wp2
      go_ret
      exact ⟨rfl, rfl⟩
    · rw [show inB n lo hi = false by simp [inB, h2]]
      go_enter Tryz.func54, Tryz.ntmps54
      go_wp2
      go_ret
      exact ⟨rfl, rfl⟩
  · rw [show inB n lo hi = false by simp [inB, h]]
    go_enter Tryz.func54, Tryz.ntmps54
    go_wp2
    go_ret
    exact ⟨rfl, rfl⟩

theorem idxF_take (xs : List Srv) (q : Int) (i : Nat) : ∀ k, k ≤ i → idxF (xs.take i) q k = idxF xs q k
  | 0, _ => rfl
  | k + 1, h => by
    have e : (xs.take i).getD k ⟨0, 0, 0, 0⟩ = xs.getD k ⟨0, 0, 0, 0⟩ := by
      simp only [List.getD_eq_getElem?_getD, List.getElem?_take]
      rw [if_pos (by omega)]
    rw [idxF, idxF, idxF_take xs q i k (by omega), e]

/-- the document's rule of one server -/
def okF (xs : List Srv) (i : Nat) : Bool :=
  decide (idxF xs (xs.getD i ⟨0, 0, 0, 0⟩).q i = -1) && (inB (xs.getD i ⟨0, 0, 0, 0⟩).p 1 1048576 && (inB (xs.getD i ⟨0, 0, 0, 0⟩).b 1 (xs.getD i ⟨0, 0, 0, 0⟩).p && (inB (xs.getD i ⟨0, 0, 0, 0⟩).o 0 (wrap64 ((xs.getD i ⟨0, 0, 0, 0⟩).p - 1)) && inB (xs.getD i ⟨0, 0, 0, 0⟩).q 0 255)))
theorem rows_ok (xs : List Srv) (i : Nat) : rowsF (fun j => if bS xs i j then 0 else 101) 5 = if okF xs i then 0 else 101 := by
  have e4 : bS xs i 4 = decide (idxF xs (xs.getD i ⟨0, 0, 0, 0⟩).q i = -1) := by
    show (!decide (0 ≤ idxF (xs.take i) (xs.getD i ⟨0, 0, 0, 0⟩).q i)) = _
    rw [idxF_take xs _ i i (Nat.le_refl _)]
    have := idx_ge xs (xs.getD i ⟨0, 0, 0, 0⟩).q i
    generalize idxF xs (xs.getD i ⟨0, 0, 0, 0⟩).q i = z at *
    by_cases h : z = -1
    · subst h; rfl
    · rw [decide_eq_false h, decide_eq_true (show 0 ≤ z by omega)]; rfl
  have e0 : bS xs i 0 = inB (xs.getD i ⟨0, 0, 0, 0⟩).p 1 1048576 := rfl
  have e1 : bS xs i 1 = inB (xs.getD i ⟨0, 0, 0, 0⟩).b 1 (xs.getD i ⟨0, 0, 0, 0⟩).p := rfl
  have e2 : bS xs i 2 = inB (xs.getD i ⟨0, 0, 0, 0⟩).o 0 (wrap64 ((xs.getD i ⟨0, 0, 0, 0⟩).p - 1)) := rfl
  have e3 : bS xs i 3 = inB (xs.getD i ⟨0, 0, 0, 0⟩).q 0 255 := rfl
  unfold okF
  rw [← e0, ← e1, ← e2, ← e3, ← e4]
  simp only [rowsF]
  cases bS xs i 0 <;> cases bS xs i 1 <;> cases bS xs i 2 <;> cases bS xs i 3 <;> cases bS xs i 4 <;> rfl

set_option maxHeartbeats 1000000 in
theorem rserver_any (F : Nat → Prop) (a : Option Addr) (n c : Nat) (xs : List Srv) (i : Nat) (w : World) (h : Sv w F a n c xs) (hi : i < n) :
    Calls Tryz.prog 42 #[.slice a n c, .int .i64 i] w fun e w' => e = .returned (.bool (okF xs i)) ∧ Kept No w w' := by
  have hn : n ≤ 9223372036854775807 := Nat.le_trans h.cap h.max
  have H : Hid (Sv w F a n c xs) := h
  have hx : xs[i]? = some (xs.getD i ⟨0, 0, 0, 0⟩) := by rw [List.getD, List.getElem?_eq_getElem (by rw [h.len]; exact hi)]; rfl
  obtain ⟨hok, b, o, rfl, hb, c0, c1, c2, c3⟩ := h.at' i _ hx
  have HO : Hid (okF xs i = (decide (idxF xs (xs.getD i ⟨0, 0, 0, 0⟩).q i = -1) && (inB (xs.getD i ⟨0, 0, 0, 0⟩).p 1 1048576 && (inB (xs.getD i ⟨0, 0, 0, 0⟩).b 1 (xs.getD i ⟨0, 0, 0, 0⟩).p && (inB (xs.getD i ⟨0, 0, 0, 0⟩).o 0 (wrap64 ((xs.getD i ⟨0, 0, 0, 0⟩).p - 1)) && inB (xs.getD i ⟨0, 0, 0, 0⟩).q 0 255))))) := rfl
  clear h hx hok hb
  generalize xs.getD i ⟨0, 0, 0, 0⟩ = y at *
  obtain ⟨yp, yb, yo, yq⟩ := y
  simp only at c0 c1 c2 c3 HO
  generalize okF xs i = R at *
  have HK1 : Hid (Kept No w (w.alloc (.cells #[.int .i64 yp, .int .i64 yb, .int .i64 yo, .int .i64 yq] 56))) := (Kept.refl No w).alloc _
  obtain ⟨b0, q0⟩ : ∃ z, inB yp 1 1048576 = z := ⟨_, rfl⟩
  obtain ⟨b1, q1⟩ : ∃ z, inB yb 1 yp = z := ⟨_, rfl⟩
  obtain ⟨b2, q2⟩ : ∃ z, inB yo 0 (wrap64 (yp - 1)) = z := ⟨_, rfl⟩
  obtain ⟨b3, q3⟩ : ∃ z, inB yq 0 255 = z := ⟨_, rfl⟩
  rw [q0, q1, q2, q3] at HO
  have Q0 : Hid (inB yp 1 1048576 = b0) := q0
  have Q1 : Hid (inB yb 1 yp = b1) := q1
  have Q2 : Hid (inB yo 0 (wrap64 (yp - 1)) = b2) := q2
  have Q3 : Hid (inB yq 0 255 = b3) := q3
  clear q0 q1 q2 q3
  go_enter Tryz.func42, Tryz.ntmps42
  go_upto_region 2 with fail
  generalize hW1 : w.alloc (.cells #[.int .i64 yp, .int .i64 yb, .int .i64 yo, .int .i64 yq] 56) = w1 at *
  have HCY : Hid (w1.cell? ⟨w.heap.size, 0, none⟩ = some (.int .i64 yp) ∧ w1.cell? ⟨w.heap.size, 1, none⟩ = some (.int .i64 yb) ∧ w1.cell? ⟨w.heap.size, 2, none⟩ = some (.int .i64 yo) ∧ w1.cell? ⟨w.heap.size, 3, none⟩ = some (.int .i64 yq)) := by subst hW1; exact ⟨by simp, by simp, by simp, by simp⟩
  clear hW1 c0 c1 c2 c3
  go_wp2
  go_loopw [6] (fun x wr => ∃ k : Nat, k ≤ i ∧ x = .int .i64 k ∧ (∃ m, wr = w1.drewN m) ∧ idxF xs yq k = -1) (fun x _ => i - (intOf x).toNat)
  case atStart => exact ⟨0, by omega, rfl, ⟨0, rfl⟩, rfl⟩
  case round =>
    obtain ⟨k, hk, rfl, ⟨m, rfl⟩, hno⟩ := hrel
    have HNO : Hid (idxF xs yq k = -1) := hno
    clear hno
    by_cases hlt : k < i
    · have hx : xs[k]? = some (xs.getD k ⟨0, 0, 0, 0⟩) := by rw [List.getD, List.getElem?_eq_getElem (by rw [H.out.len]; omega)]; rfl
      obtain ⟨hok, b', o', he, hb, d0, d1, d2, d3⟩ := (H.out.keep HK1.out).at' k _ hx
      simp only [Option.some.injEq, Addr.mk.injEq, and_true] at he
      obtain ⟨rfl, rfl⟩ := he
      have z3 := HCY.out.2.2.2
      clear d0 d1 d2 hx hok hb
      by_cases hq : (xs.getD k ⟨0, 0, 0, 0⟩).q = yq
      · have HF : Hid (idxF xs yq i = k) := idxF_hit HNO.out hq i hlt
        have HR : Hid (R = false) := by
          have := HO.out
          rw [HF.out, decide_eq_false (show ¬ (k : Int) = -1 by omega), Bool.false_and] at this
          exact this
        rw [hq] at d3
        go_wp2
        go_quiet (fail)
        go_wp2
        go_ret
        exact ⟨by rw [HR.out]; rfl, (HK1.out.drewN _).drewN _⟩
      · have HF : Hid (idxF xs yq (k + 1) = -1) := idxF_miss HNO.out hq
        have hq2 : ¬ (xs.getD k ⟨0, 0, 0, 0⟩).q = yq := hq
        generalize (xs.getD k ⟨0, 0, 0, 0⟩).q = q' at *
        go_wp2
        go_quiet (fail)
        go_wp2
        go_roundw
        case rel => exact ⟨k + 1, by omega, by go_num, ⟨_, rfl⟩, HF.out⟩
        case measure => simp [intOf]; omega
    · have hke : k = i := by omega
      subst hke
      have HR : Hid (R = (b0 && (b1 && (b2 && b3)))) := by
        have := HO.out
        rw [HNO.out] at this
        have t2 : R = (b0 && (b1 && (b2 && b3))) := by simpa using this
        exact t2
      obtain ⟨z0, z1, z2, z3⟩ := HCY.out
      clear HO HNO HCY
      have q0 := Q0.out
      have q1 := Q1.out
      have q2 := Q2.out
      have q3 := Q3.out
      cases b0
      · go_wp2_with (go_at_call 54; refine (rwithin_any _ _ _ _).mono ?_; rintro e w' ⟨rfl, rfl⟩; (try simp only [q0, q1, q2, q3]))
        go_ret
        exact ⟨by rw [HR.out]; rfl, HK1.out.drewN _⟩
      cases b1
      · go_wp2_with (go_at_call 54; refine (rwithin_any _ _ _ _).mono ?_; rintro e w' ⟨rfl, rfl⟩; (try simp only [q0, q1, q2, q3]))
        go_ret
        exact ⟨by rw [HR.out]; rfl, HK1.out.drewN _⟩
      cases b2
      · go_wp2_with (go_at_call 54; refine (rwithin_any _ _ _ _).mono ?_; rintro e w' ⟨rfl, rfl⟩; (try simp only [q0, q1, q2, q3]))
        go_ret
        exact ⟨by rw [HR.out]; rfl, HK1.out.drewN _⟩
      cases b3
      · go_wp2_with (go_at_call 54; refine (rwithin_any _ _ _ _).mono ?_; rintro e w' ⟨rfl, rfl⟩; (try simp only [q0, q1, q2, q3]))
        go_ret
        exact ⟨by rw [HR.out]; rfl, HK1.out.drewN _⟩
      · go_wp2_with (go_at_call 54; refine (rwithin_any _ _ _ _).mono ?_; rintro e w' ⟨rfl, rfl⟩; (try simp only [q0, q1, q2, q3]))
        go_ret
        exact ⟨by rw [HR.out]; rfl, HK1.out.drewN _⟩

theorem servF_ok (xs : List Srv) (n : Nat) : servF xs n = eachF (fun i => if okF xs i then 0 else 101) 1 n := by
  unfold servF
  congr 1
  funext i
  exact rows_ok xs i

set_option maxHeartbeats 2000000 in
theorem rservers_any (F : Nat → Prop) (a : Option Addr) (n c : Nat) (xs : List Srv) (w : World) (h : Sv w F a n c xs) :
    Calls Tryz.prog 25 #[.slice a n c] w fun e w' => e = .returned (.tuple #[.int .i64 (fe (findF xs n)), .int .i64 (fn (findF xs n))]) ∧ Kept No w w' := by
  have hn : n ≤ 9223372036854775807 := Nat.le_trans h.cap h.max
  have H : Hid (Sv w F a n c xs) := h
  clear h
  by_cases h32 : n ≤ 32
  · have HF : Hid (findF xs n = eachF (fun i => if okF xs i then 0 else 101) 1 n) := by show findF xs n = _; unfold findF; rw [if_pos h32, servF_ok]
    rw [HF.out]
    obtain ⟨fe0, hfe⟩ : ∃ z, z = fe (eachF (fun i => if okF xs i then 0 else 101) 1 n) := ⟨_, rfl⟩
    obtain ⟨fn0, hfn⟩ : ∃ z, z = fn (eachF (fun i => if okF xs i then 0 else 101) 1 n) := ⟨_, rfl⟩
    rw [← hfe, ← hfn]
    have HFE : Hid (fe0 = fe (eachF (fun i => if okF xs i then 0 else 101) 1 n)) := hfe
    have HFN : Hid (fn0 = fn (eachF (fun i => if okF xs i then 0 else 101) 1 n)) := hfn
    clear hfe hfn HF
    go_enter Tryz.func25, Tryz.ntmps25
    go_wp2
    go_loopw [4] (fun x wr => ∃ k : Nat, k ≤ n ∧ x = .int .i64 k ∧ Kept No w wr ∧ eachF (fun i => if okF xs i then 0 else 101) 1 k = none) (fun x _ => n - (intOf x).toNat)
    case atStart => exact ⟨0, by omega, rfl, Kept.refl No w, rfl⟩
    case round =>
      obtain ⟨k, hk, rfl, hkr, hno⟩ := hrel
      have HNO : Hid (eachF (fun i => if okF xs i then 0 else 101) 1 k = none) := hno
      have HKR : Hid (Kept No w wr) := hkr
      clear hno
      by_cases hlt : k < n
      · have hc := rserver_any F a n c xs k wr (H.out.keep hkr) hlt
        clear hkr
        cases hb : okF xs k
        · have HE : Hid (fe0 = 101 ∧ fn0 = 1 + k) := by
            have := eachF_hit (r := fun i => if okF xs i then 0 else 101) HNO.out (by simp [hb]) n hlt
            have e1 := HFE.out
            have e2 := HFN.out
            rw [this] at e1 e2
            simp only [hb] at e1 e2
            exact ⟨e1, e2⟩
          rw [hb] at hc
          clear hb
          go_wp2_with (go_at_call 42; refine hc.mono ?_; rintro e w' ⟨rfl, hk1⟩; have HK2 : Hid (Kept No w w') := HKR.out.trans hk1 (fun _ h => h.elim); clear hk1)
          go_ret2
          refine ⟨?_, HK2.out⟩
          rw [HE.out.1, HE.out.2, Int.add_comm]
          rfl
        · have HE : Hid (eachF (fun i => if okF xs i then 0 else 101) 1 (k + 1) = none) := eachF_miss (r := fun i => if okF xs i then 0 else 101) HNO.out (by simp [hb])
          rw [hb] at hc
          clear hb
          go_wp2_with (go_at_call 42; refine hc.mono ?_; rintro e w' ⟨rfl, hk1⟩; have HK2 : Hid (Kept No w w') := HKR.out.trans hk1 (fun _ h => h.elim); clear hk1)
          go_roundw
          case rel => exact ⟨k + 1, by omega, by go_num, HK2.out, HE.out⟩
          case measure => simp [intOf]; omega
      · have hke : k = n := by omega
        subst hke
        have HE : Hid (fe0 = 0 ∧ fn0 = 0) := by
          have e1 := HFE.out
          have e2 := HFN.out
          rw [HNO.out] at e1 e2
          exact ⟨e1, e2⟩
        clear hkr
        go_wp2
        go_ret2
        refine ⟨?_, HKR.out⟩
        rw [HE.out.1, HE.out.2]
        rfl
  · have HF : Hid (findF xs n = some (100, 0)) := by show findF xs n = some (100, 0); unfold findF; rw [if_neg h32]
    rw [HF.out]
    show Calls Tryz.prog 25 #[.slice a n c] w fun e w' => e = .returned (.tuple #[.int .i64 100, .int .i64 0]) ∧ Kept No w w'
    have HK : Hid (Kept No w w) := Kept.refl No w
    go_enter Tryz.func25, Tryz.ntmps25
    go_wp2
    go_ret2
    exact ⟨rfl, HK.out⟩
end Go.Proofs.YtdlijkofjnjlkaaGreatDoor

namespace Go.Proofs.YtdlijkofjnjlkaaGreatDoor
open Go.RowKit Plain
set_option linter.unusedVariables false
set_option linter.unusedSimpArgs false
set_option maxRecDepth 100000

set_option maxHeartbeats 4000000 in
theorem rhyper_any (F : Nat → Prop) (a : Option Addr) (n c : Nat) (xs : List Srv) (w : World) (h : Sv w F a n c xs) (hn : n ≤ 70000) :
    Calls Tryz.prog 26 #[.slice a n c] w fun e w' => e = .returned (.tuple #[.int .i64 (lcmV (zP xs) n 1048576), .bool (lcmB (zP xs) n 1048576)]) ∧ Kept No w w' := by
  obtain ⟨i0, hi, hz0, hz1, hz2⟩ := info_parts Tryz.infoL
  have H : Hid (Sv w F a n c xs) := h
  obtain ⟨z1, hz1'⟩ : ∃ z, z = lcmV (zP xs) n 1048576 := ⟨_, rfl⟩
  obtain ⟨z2, hz2'⟩ : ∃ z, z = lcmB (zP xs) n 1048576 := ⟨_, rfl⟩
  rw [← hz1', ← hz2']
  have HZ1 : Hid (z1 = lcmV (zP xs) n 1048576) := hz1'
  have HZ2 : Hid (z2 = lcmB (zP xs) n 1048576) := hz2'
  have hz1b : -9223372036854775808 ≤ z1 ∧ z1 ≤ 9223372036854775807 := by have := lcm_bd xs n; rw [hz1']; omega
  clear h hz1' hz2'
  go_enter Tryz.func26, Tryz.ntmps26
  go_wp2
  go_loopw [4, 5] (fun v x wr => ∃ k : Nat, k ≤ n ∧ x = .int .i64 k ∧ Kept No w wr ∧ wr.ownsRow w.heap.size 2 1 v k ((psP xs k).map iv)) (fun _ x _ => n - (intOf x).toNat)
  case atStart => exact ⟨0, by omega, rfl, Kept.refl No w, ⟨rfl, .inl ⟨rfl, rfl⟩⟩⟩
  case round =>
    obtain ⟨k, hk, rfl, hkr, hown⟩ := hrel
    by_cases hlt : k < n
    · have hx : xs[k]? = some (xs.getD k ⟨0, 0, 0, 0⟩) := by rw [List.getD, List.getElem?_eq_getElem (by rw [H.out.len]; exact hlt)]; rfl
      obtain ⟨hok, b, o, rfl, hb, c0, c1, c2, c3⟩ := (H.out.keep hkr).at' k _ hx
      have HNX : Hid ((psP xs (k + 1)).map iv = (psP xs k).map iv ++ [.int .i64 (xs.getD k ⟨0, 0, 0, 0⟩).p]) := psP_succ xs k
      have hyp : -9223372036854775808 ≤ (xs.getD k ⟨0, 0, 0, 0⟩).p ∧ (xs.getD k ⟨0, 0, 0, 0⟩).p ≤ 9223372036854775807 := hok.1
      clear hx hok
      generalize (psP xs k).map iv = L0 at *
      generalize xs.getD k ⟨0, 0, 0, 0⟩ = y at *
      obtain ⟨yp, yb, yo, yq⟩ := y
      simp only at c0 c1 c2 c3 HNX hyp
      have HOW : Hid (wr.ownsRow w.heap.size 2 1 u4 k L0) := hown
      have HKR : Hid (Kept No w wr) := hkr
      clear hown hkr
      go_wp2_with (at_builtin; refine wpList_append_own_at _ rfl _ _ 80 rfl w.heap.size 2 i0 (.int .i64 0) 1 8 Tryz.underlying80 hi hz0 hz1 hz2 rfl (by decide) _ _ _ rfl (HOW.out.alloc _) ⟨wr.heap.size, 0, none⟩ 1 1 [.int .i64 yp] rfl rfl (cell_one_new _ _ _) (one_one _ _) (by unfold maxLen; omega) (by omega) (by have := HKR.out.size; simp; omega) ?_; intro v1 w6 own1 grow1 _ at1)
      have HK6 : Hid (Kept No w w6 ∧ w6.ownsRow w.heap.size 2 1 v1 (k + 1) ((psP xs (k + 1)).map iv)) := by
        exact ⟨(HKR.out.alloc _).grown grow1 (fun g e => .inr (HOW.out.lt g e).1), by rw [HNX.out]; exact own1⟩
      clear own1 grow1 at1
      go_wp2
      go_roundw
      case rel => exact ⟨k + 1, by omega, by go_num, HK6.out.1, HK6.out.2⟩
      case measure => simp [intOf]; omega
    · have hke : k = n := by omega
      subst hke
      obtain ⟨sa, sc, rfl, hrow⟩ := row_of wr w.heap.size 2 u4 xs k hown (fun i hi => by
        have hx : xs[i]? = some (xs.getD i ⟨0, 0, 0, 0⟩) := by rw [List.getD, List.getElem?_eq_getElem (by rw [H.out.len]; exact hi)]; rfl
        exact (H.out.at' i _ hx).1.1)
      have hc := rlcm_any sa k sc (zP xs) 1048576 wr (by omega) (by unfold I64; omega) hrow
      have HKR : Hid (Kept No w wr) := hkr
      clear hown hkr hrow
      rw [← HZ1.out, ← HZ2.out] at hc
      go_wp2_with (go_at_call 43; refine hc.mono ?_; rintro e w2 ⟨rfl, nn, rfl⟩)
      go_ret2
      exact ⟨rfl, HKR.out.drewN _⟩

theorem fe_of {xs : List Srv} {n : Nat} {p : Int × Int} (h : findF xs n = some p) : p.1 = 100 ∨ p.1 = 101 := by
  unfold findF at h
  by_cases h32 : n ≤ 32
  · rw [if_pos h32, servF_ok] at h
    have key : ∀ m, eachF (fun i => if okF xs i then 0 else 101) 1 m = some p → p.1 = 101 := by
      intro m
      induction m with
      | zero => intro h; cases h
      | succ m ih =>
        intro h
        rw [eachF] at h
        cases he : eachF (fun i => if okF xs i then 0 else 101) 1 m with
        | some q => rw [he] at h; cases h; exact ih he
        | none =>
          rw [he] at h
          cases ho : okF xs m
          · simp [ho] at h; rw [← h]
          · simp [ho] at h
    exact .inr (key n h)
  · rw [if_neg h32] at h; cases h; exact .inl rfl

set_option maxHeartbeats 4000000 in
theorem rHyper_any (F : Nat → Prop) (a : Option Addr) (n c : Nat) (xs : List Srv) (w : World) (h : Sv w F a n c xs) :
    Calls Tryz.prog 8 #[.slice a n c] w fun e w' => e = .returned (.tuple #[.int .i64 (hyV xs n), .int .i64 (hyE xs n)]) ∧ Kept No w w' := by
  have hc := rservers_any F a n c xs w h
  cases hf : findF xs n with
  | some p =>
    have ht : timF xs n = some p := by unfold timF; rw [hf]
    rw [show hyV xs n = 0 by unfold hyV; rw [ht], show hyE xs n = p.1 by unfold hyE; rw [ht]]
    have hp := fe_of hf
    rw [hf] at hc
    simp only [fe, fn] at hc
    obtain ⟨px, py⟩ := p
    simp only at hp hc ⊢
    have hne : ¬ px = 0 := by omega
    clear hf h ht hp
    go_enter Tryz.func8, Tryz.ntmps8
    go_wp2_with (go_at_call 25; refine hc.mono ?_; rintro e w1 ⟨rfl, hk1⟩; have HK1 : Hid (Kept No w w1) := hk1; clear hk1)
    go_ret2
    exact ⟨rfl, HK1.out⟩
  | none =>
    obtain ⟨hn, hp⟩ := findF_none hf
    have ht : timF xs n = togF xs n := by unfold timF; rw [hf]
    rw [hf] at hc
    simp only [fe, fn] at hc
    have H : Hid (Sv w F a n c xs) := h
    have HP : Hid (∀ i, i < n → 1 ≤ zP xs i) := fun i hi => (hp i hi).1
    have H2 : Hid (∀ w', Kept No w w' → Calls Tryz.prog 26 #[.slice a n c] w' fun e w' => e = .returned (.tuple #[.int .i64 (lcmV (zP xs) n 1048576), .bool (lcmB (zP xs) n 1048576)]) ∧ Kept No w w') := fun w' hw => (rhyper_any F a n c xs w' (h.keep hw) (by omega)).mono (fun e w2 he => ⟨he.1, hw.trans he.2 (fun _ h => h.elim)⟩)
    cases hB : lcmB (zP xs) n 1048576
    · have ht2 : timF xs n = some (102, 0) := by rw [ht]; unfold togF; rw [hB]; rfl
      rw [show hyV xs n = 0 by unfold hyV; rw [ht2], show hyE xs n = 102 by unfold hyE; rw [ht2]]
      rw [hB] at H2
      clear hf h ht ht2 hp hB
      generalize lcmV (zP xs) n 1048576 = z1 at *
      go_enter Tryz.func8, Tryz.ntmps8
      go_wp2_with (first
        | (go_at_call 25; refine hc.mono ?_; rintro e w1 ⟨rfl, hk1⟩; have HK1 : Hid (Kept No w w1) := hk1; have hc2 := H2.out w1 hk1; clear hk1)
        | (go_at_call 26; refine hc2.mono ?_; rintro e w2 ⟨rfl, hk1⟩; have HK2 : Hid (Kept No w w2) := hk1; clear hk1))
      go_ret2
      exact ⟨rfl, HK2.out⟩
    · obtain ⟨l0, l1⟩ := lcm_bd xs n
      rw [hB] at H2
      have HV : Hid (relF (lcmV (zP xs) n 1048576) xs n ≤ 65536 → hyV xs n = lcmV (zP xs) n 1048576 ∧ hyE xs n = 0) := fun hle => by
        have ht2 : timF xs n = none := by rw [ht]; unfold togF; rw [hB, if_pos hle]; rfl
        exact ⟨by unfold hyV; rw [ht2], by unfold hyE; rw [ht2]⟩
      have HV2 : Hid (¬ relF (lcmV (zP xs) n 1048576) xs n ≤ 65536 → hyV xs n = 0 ∧ hyE xs n = 103) := fun hle => by
        have ht2 : timF xs n = some (103, 0) := by rw [ht]; unfold togF; rw [hB, if_neg hle]; rfl
        exact ⟨by unfold hyV; rw [ht2], by unfold hyE; rw [ht2]⟩
      clear hf h ht hp hB
      generalize lcmV (zP xs) n 1048576 = z1 at *
      generalize hyV xs n = r1 at *
      generalize hyE xs n = r2 at *
      have HBD : Hid (∀ k, k ≤ n → 0 ≤ relF z1 xs k ∧ relF z1 xs k ≤ k * 2097152) := fun k hk => relF_bd (xs := xs) l0 l1 k (fun i hi => HP.out i (by omega))
      go_enter Tryz.func8, Tryz.ntmps8
      go_wp2_with (first
        | (go_at_call 25; refine hc.mono ?_; rintro e w1 ⟨rfl, hk1⟩; have HK1 : Hid (Kept No w w1) := hk1; have hc2 := H2.out w1 hk1; clear hk1)
        | (go_at_call 26; refine hc2.mono ?_; rintro e w2 ⟨rfl, hk1⟩; have HK2 : Hid (Kept No w w2) := hk1; clear hk1))
      clear hc hc2 H2 HK1
      go_loopw [8, 9] (fun v x wr => ∃ k : Nat, k ≤ n ∧ x = .int .i64 k ∧ Kept No w wr ∧ v = .int .i64 (relF z1 xs k)) (fun _ x _ => n - (intOf x).toNat)
      case atStart => exact ⟨0, by omega, rfl, HK2.out, rfl⟩
      case round =>
        clear HK2
        obtain ⟨k, hk, rfl, hkr, rfl⟩ := hrel
        by_cases hlt : k < n
        · have hx : xs[k]? = some (xs.getD k ⟨0, 0, 0, 0⟩) := by rw [List.getD, List.getElem?_eq_getElem (by rw [H.out.len]; exact hlt)]; rfl
          obtain ⟨hok, b, o, rfl, hb, c0, c1, c2, c3⟩ := (H.out.keep hkr).at' k _ hx
          have hpk : 1 ≤ (xs.getD k ⟨0, 0, 0, 0⟩).p := HP.out k hlt
          have HS : Hid (relF z1 xs (k + 1) = relF z1 xs k + (2 * z1) / (xs.getD k ⟨0, 0, 0, 0⟩).p) := rfl
          have hpm : (xs.getD k ⟨0, 0, 0, 0⟩).p ≤ 9223372036854775807 := hok.1.2
          obtain ⟨r0, r1⟩ := HBD.out k hk
          have r2 : relF z1 xs k ≤ 67108864 := by
            have : (k : Int) * 2097152 ≤ 67108864 := by omega
            omega
          have HKR : Hid (Kept No w wr) := hkr
          clear hx hok hkr r1
          generalize xs.getD k ⟨0, 0, 0, 0⟩ = y at *
          obtain ⟨yp, yb, yo, yq⟩ := y
          simp only at c0 c1 c2 c3 HS hpk hpm
          generalize relF z1 xs k = rk at *
          have hd0 : 0 ≤ (2 * z1) / yp := Int.ediv_nonneg (by omega) (by omega)
          have hd1 : (2 * z1) / yp ≤ 2 * z1 := Int.ediv_le_self _ (by omega)
          go_wp2
          go_roundw
          case rel => exact ⟨k + 1, by omega, by go_num, HKR.out, by rw [HS.out]⟩
          case measure => simp [intOf]; omega
        · have hke : k = n := by omega
          subst hke
          have HKR : Hid (Kept No w wr) := hkr
          clear hkr
          by_cases hle : relF z1 xs k ≤ 65536
          · obtain ⟨e1, e2⟩ := HV.out hle
            have HE : Hid (r1 = z1 ∧ r2 = 0) := ⟨e1, e2⟩
            clear e1 e2
            generalize relF z1 xs k = rk at *
            go_wp2
            go_ret2
            exact ⟨by rw [HE.out.1, HE.out.2]; rfl, HKR.out⟩
          · obtain ⟨e1, e2⟩ := HV2.out (by omega)
            have HE : Hid (r1 = 0 ∧ r2 = 103) := ⟨e1, e2⟩
            clear e1 e2
            generalize relF z1 xs k = rk at *
            go_wp2
            go_ret2
            exact ⟨by rw [HE.out.1, HE.out.2]; rfl, HKR.out⟩
end Go.Proofs.YtdlijkofjnjlkaaGreatDoor

namespace Go.Proofs.YtdlijkofjnjlkaaGreatDoor
open Go.RowKit Plain
set_option linter.unusedVariables false
set_option maxRecDepth 100000

set_option maxHeartbeats 2000000 in
theorem same_yes {F G : Nat → Prop} {a a2 : Option Addr} {n c c2 : Nat} {L : List (Int × Int)} (w : World) (h : Sl w F a n c L) (h2 : Sl w G a2 n c2 L) :
    Calls Tryz.prog 12 #[.slice a n c, .slice a2 n c2] w fun e w' => e = .returned (.bool true) ∧ Kept No w w' := by
  have HS : Hid (Sl w F a n c L ∧ Sl w G a2 n c2 L) := ⟨h, h2⟩
  have hcap := h.cap
  have hmax := h.max
  have hcap2 := h2.cap
  have hmax2 := h2.max
  clear h h2
  go_enter Tryz.func12, Tryz.ntmps12
  go_wp2
  go_loopw [5] (fun x wr => ∃ k : Nat, k ≤ n ∧ x = .int .i64 k ∧ Kept No w wr) (fun x _ => n - (intOf x).toNat)
  case atStart => exact ⟨0, Nat.zero_le _, rfl, Kept.refl No w⟩
  case round =>
    obtain ⟨k, hk, rfl, hkr⟩ := hrel
    have HKR : Hid (Kept No w wr) := hkr
    clear hkr
    by_cases hlt : k < n
    · have hltz : (k : Int) < (n : Int) := by omega
      obtain ⟨b, o, rfl, _, e0, e1⟩ := HS.out.1.gt hlt
      obtain ⟨b2, o2, rfl, _, d0, d1⟩ := HS.out.2.gt hlt
      generalize (Slt.gt L k).1 = y0 at *
      generalize (Slt.gt L k).2 = y1 at *
      have e0' := HKR.out.cell e0 (fun h => h)
      have e1' := HKR.out.cell e1 (fun h => h)
      have d0' := HKR.out.cell d0 (fun h => h)
      have d1' := HKR.out.cell d1 (fun h => h)
      clear e0 e1 d0 d1
      go_upto_region 6 with fail
      go_quiet (fail)
      clear e0' e1' d0' d1'
      go_wp2
      go_roundw
      case rel => exact ⟨k + 1, by omega, by go_num, HKR.out.drewN _⟩
      case measure => simp [intOf]; omega
    · have hltz : ¬ (k : Int) < (n : Int) := by omega
      clear hk
      go_wp2
      go_ret
      exact ⟨rfl, HKR.out⟩

theorem two_new (w : World) (X Y : Obj) : ((w.alloc X).alloc Y).heap[w.heap.size]? = some X ∧ ((w.alloc X).alloc Y).heap[w.heap.size + 1]? = some Y := by
  constructor
  · exact ((Kept.refl No (w.alloc X)).alloc Y).at' (World.alloc_heap_new w X) (fun h => h)
  · have h := World.alloc_heap_new (w.alloc X) Y
    have e : (w.alloc X).heap.size = w.heap.size + 1 := by unfold World.alloc; exact Array.size_push _
    rw [e] at h
    exact h
end Go.Proofs.YtdlijkofjnjlkaaGreatDoor

namespace Go.Proofs.YtdlijkofjnjlkaaGreatDoor
open Go.RowKit Plain
set_option linter.unusedVariables false
set_option maxRecDepth 100000

/-- the block of a list that begins one -/
def Blk (a : Option Addr) (k : Nat) : Prop := a = some ⟨k, 0, none⟩
/-- a row of slots that may be written -/
structure Rs (w : World) (a : Option Addr) (n : Nat) (f : Nat → Int × Int) : Prop where
  nil : a = none → n = 0
  at' : ∀ i, i < n → ∃ g, a = some ⟨g, 0, none⟩ ∧ g < w.heap.size ∧ w.cell? ⟨g, i * 2, none⟩ = some (.int .i64 (f i).1) ∧ w.cell? ⟨g, i * 2 + 1, none⟩ = some (.int .i64 (f i).2) ∧ ∀ k, w.frozen? ⟨g, k, none⟩ = false
section
variable {w w' : World} {a : Option Addr} {n : Nat} {f : Nat → Int × Int} {G : Nat → Prop}
theorem Rs.kept (h : Rs w a n f) (k : Kept G w w') (hn : ∀ b, Blk a b → ¬ G b) : Rs w' a n f :=
  ⟨h.nil, fun i hi => by
    obtain ⟨g, e, hg, h0, h1, h2⟩ := h.at' i hi
    have hd := hn g e
    refine ⟨g, e, Nat.lt_of_lt_of_le hg k.size, k.cell h0 hd, k.cell h1 hd, fun j => ?_⟩
    have eb := k.block g hg hd
    have := h2 j
    simp only [World.frozen?] at this ⊢
    rw [eb]; exact this⟩
theorem Rs.ext {f' : Nat → Int × Int} (h : Rs w a n f) (e : ∀ i, i < n → f i = f' i) : Rs w a n f' :=
  ⟨h.nil, fun i hi => by rw [← e i hi]; exact h.at' i hi⟩
theorem Rs.set {g : Nat} (h : Rs w (some ⟨g, 0, none⟩) n f) (k : Nat) (x y : Int) : Rs ((w.setCell ⟨g, k * 2, none⟩ (.int .i64 x)).setCell ⟨g, k * 2 + 1, none⟩ (.int .i64 y)) (some ⟨g, 0, none⟩) n (fun i => if i = k then (x, y) else f i) := by
  refine ⟨fun e => (by cases e), fun i hi => ?_⟩
  obtain ⟨g', e, hg, h0, h1, h2⟩ := h.at' i hi
  injection e with e
  injection e with e _ _
  subst e
  have s0 : (w.setCell ⟨g, k * 2, none⟩ (.int .i64 x)).cell? ⟨g, i * 2, none⟩ = some (if i = k then .int .i64 x else .int .i64 (f i).1) := by
    rw [cell_set h0]
    by_cases e : i = k
    · rw [if_pos (by omega), if_pos e]
    · rw [if_neg (by omega), if_neg e]
  have s1 : (w.setCell ⟨g, k * 2, none⟩ (.int .i64 x)).cell? ⟨g, i * 2 + 1, none⟩ = some (.int .i64 (f i).2) := by
    rw [cell_set h1, if_neg (by omega)]
  refine ⟨g, rfl, by simpa [World.setCell] using hg, ?_, ?_, fun j => by rw [World.frozen?_setCell, World.frozen?_setCell]; exact h2 j⟩
  · rw [cell_set s0, if_neg (by omega)]
    by_cases e : i = k
    · rw [if_pos e, if_pos e]
    · rw [if_neg e, if_neg e]
  · rw [cell_set s1]
    by_cases e : i = k
    · rw [if_pos (by omega), if_pos e]
    · rw [if_neg (by omega), if_neg e]
end
theorem Pt.rs {w : World} {base g : Nat} {L : List (Nat × Nat)} (h : Pt w base g L) : ∃ f, Rs w (some ⟨g, 0, none⟩) L.length f := by
  refine ⟨fun i => Slt.gt (zl L) i, fun e => (by cases e), fun i hi => ?_⟩
  obtain ⟨b, o, e, _, h0, h1⟩ := h.sl.gt hi
  injection e with e
  injection e with e1 e2 _
  subst e1 e2
  rw [Nat.zero_add] at h0 h1
  refine ⟨g, rfl, h.hi, h0, h1, fun k => ?_⟩
  obtain ⟨⟨c, _, ⟨h1, _⟩ | ⟨g', cap', cur, hv, hb', hg, _⟩⟩, _, _⟩ := h
  · cases h1
  · injection hv with e1 _ _
    injection e1 with e1
    injection e1 with e1 _ _
    subst e1
    simp [World.frozen?, hg]

/-- n slots of length nought, as cells -/
def prL (x : Int) : Nat → List Value
  | 0 => []
  | n + 1 => .int .i64 0 :: .int .i64 x :: prL x n
theorem prL_len (x : Int) : ∀ n, (prL x n).length = n * 2
  | 0 => rfl
  | n + 1 => by rw [prL, List.length_cons, List.length_cons, prL_len x n]; omega
theorem prL_get (x : Int) : ∀ n i, i < n → (prL x n)[i * 2]? = some (.int .i64 0) ∧ (prL x n)[i * 2 + 1]? = some (.int .i64 x)
  | 0, _, h => (by omega)
  | n + 1, 0, _ => ⟨rfl, rfl⟩
  | n + 1, i + 1, h => by
    have := prL_get x n i (by omega)
    rw [prL, show (i + 1) * 2 = i * 2 + 1 + 1 by omega]
    exact this
theorem zero70 : Builtin.zeroCells (Value.agg #[.int .i64 0, .int .i64 0]).cells 70 = (prL 0 70).toArray := by kernel_rfl

theorem app70 {w : World} {a : Option Addr} {n : Nat} {x : Int} (ty : TypeId) (h : Rs w a n (fun _ => (0, x))) (hn : n ≤ 2097152) :
    ∃ c' w', (Builtin.append_ #[24, 3] ty #[.slice a n n, .int .i64 (70 : Nat)]).run Tryz.prog w = .ok (.slice (some ⟨w.heap.size, 0, none⟩) (n + 70) c') w' ∧ n + 70 ≤ c' ∧ c' ≤ 9223372036854775807 ∧ Kept No w w' ∧ w.heap.size < w'.heap.size ∧ ∀ i, i < n + 70 → w'.cell? ⟨w.heap.size, i * 2 + 1, none⟩ = some (.int .i64 (if i < n then x else 0)) := by
  obtain ⟨i0, hi, hz0, hz1, hz2⟩ := info_parts Tryz.infoSo
  have hold : (Builtin.firstCells i0.size n (.slice a n n)).run Tryz.prog w.drew = .ok (prL x n).toArray w.drew := by
    rw [hz1]
    cases a with
    | none =>
      have := h.nil rfl
      subst this
      exact run_firstCells_none ..
    | some p =>
      by_cases h0 : n = 0
      · subst h0
        exact run_firstCells_some _ 2 0 p 0 0 [] rfl (fun j v e => by simp at e)
      · obtain ⟨g, e, _⟩ := h.at' 0 (by omega)
        injection e with e
        subst e
        refine run_firstCells_some _ 2 n _ n n (prL x n) (prL_len x n) (fun j v e => ?_)
        have hj : j < n * 2 := by
          have := (List.getElem?_eq_some_iff.1 e).1
          rw [prL_len] at this
          exact this
        obtain ⟨g', e', _, q0, q1, _⟩ := h.at' (j / 2) (by omega)
        injection e' with e'
        injection e' with e' _ _
        subst e'
        obtain ⟨r0, r1⟩ := prL_get x n (j / 2) (by omega)
        rcases Nat.mod_two_eq_zero_or_one j with hm | hm
        · have ej : j / 2 * 2 = j := by omega
          rw [ej] at q0 r0
          rw [e] at r0
          injection r0 with r0
          subst r0
          rw [Addr.add_lit]
          rw [Nat.zero_add]
          exact q0
        · have ej : j / 2 * 2 + 1 = j := by omega
          rw [ej] at q1 r1
          rw [e] at r1
          injection r1 with r1
          subst r1
          rw [Addr.add_lit]
          rw [Nat.zero_add]
          exact q1
  have hr := Go.Lib.run_append_grow_zeros (P := Tryz.prog) w 24 3 ty 62 i0 (.agg #[.int .i64 0, .int .i64 0]) .i64 .i64 Tryz.underlying24 Tryz.underlying3 hi hz0 a n n (prL x n) hold 70 (by decide) (by omega) (by omega) (by omega) (by rw [hz2]; decide) (growslice_fits (by omega) (by rw [hz2]; omega))
  rw [zero70] at hr
  have hge := grownCap_ge w (n + 70) n 62
  have hcm : grownCap w (n + 70) n 62 ≤ maxLen := grownCap_le_maxLen w (n + 70) n 62 (by unfold maxLen; omega)
  refine ⟨_, _, hr, hge, hcm, ((Kept.refl No w).drewN 1).alloc _, by rw [World.size_alloc]; exact Nat.lt_succ_self _, fun i hi => ?_⟩
  have hc := heap_alloc_new w.drew (.cells ((prL x n).toArray ++ (prL 0 70).toArray ++ Builtin.zeroCells (Value.agg #[.int .i64 0, .int .i64 0]).cells (grownCap w (n + 70) n 62 - (n + 70))) 62)
  have hg : ((prL x n).toArray ++ (prL 0 70).toArray ++ Builtin.zeroCells (Value.agg #[.int .i64 0, .int .i64 0]).cells (grownCap w (n + 70) n 62 - (n + 70)))[i * 2 + 1]? = some (.int .i64 (if i < n then x else 0)) := by
    rw [Array.getElem?_append_left (by rw [Array.size_append, List.size_toArray, List.size_toArray, prL_len, prL_len]; omega)]
    by_cases e : i < n
    · rw [if_pos e, Array.getElem?_append_left (by rw [List.size_toArray, prL_len]; omega), List.getElem?_toArray]
      exact (prL_get x n i e).2
    · rw [if_neg e, Array.getElem?_append_right (by rw [List.size_toArray, prL_len]; omega), List.getElem?_toArray, List.size_toArray, prL_len, show i * 2 + 1 - n * 2 = (i - n) * 2 + 1 by omega]
      exact (prL_get 0 70 (i - n) (by omega)).2
  generalize ((prL x n).toArray ++ (prL 0 70).toArray ++ Builtin.zeroCells (Value.agg #[.int .i64 0, .int .i64 0]).cells (grownCap w (n + 70) n 62 - (n + 70))) = cs at *
  have hc' : (w.drew.alloc (.cells cs 62)).heap[w.heap.size]? = some (.cells cs 62) := hc
  unfold World.cell?
  simp only [hc']
  exact hg
end Go.Proofs.YtdlijkofjnjlkaaGreatDoor

namespace Go.Proofs.YtdlijkofjnjlkaaGreatDoor
open Go.RowKit Plain
set_option linter.unusedVariables false
set_option maxRecDepth 100000

def tP (xs : List Srv) : List (Nat × Nat) := match timF xs xs.length with
  | none => Rule.runsOf (Rule.occ (sys xs)) 0 (hyp xs)
  | some _ => []
def tC (xs : List Srv) : List (Nat × Nat) := match timF xs xs.length with
  | none => Rule.runsOf (Rule.occ (sys xs)) (hyp xs) (hyp xs)
  | some _ => []
def tE (xs : List Srv) : Int := match timF xs xs.length with
  | none => 0
  | some p => p.1
theorem tP_le (xs : List Srv) : (tP xs).length ≤ 2097152 := by
  unfold tP
  cases h : timF xs xs.length with
  | none =>
    have := (vd_of h).hyp2
    have := Rule.runsOf_le (Rule.occ (sys xs)) 0 (hyp xs)
    simp only
    omega
  | some p => simp
theorem tC_le (xs : List Srv) : (tC xs).length ≤ 2097152 := by
  unfold tC
  cases h : timF xs xs.length with
  | none =>
    have := (vd_of h).hyp2
    have := Rule.runsOf_le (Rule.occ (sys xs)) (hyp xs) (hyp xs)
    simp only
    omega
  | some p => simp
theorem t_valid {xs : List Srv} (h : tE xs = 0) : hyF (zl (tP xs)) (zl (tC xs)) ≠ 0 := by
  unfold tE at h
  unfold tP tC
  cases ht : timF xs xs.length with
  | none =>
    have hv := vd_of ht
    simp only
    rw [tab_hyF (tab_runs hv)]
    have := hv.hyp1
    omega
  | some p =>
    rw [ht] at h
    exact (tim_ne ht h).elim

/-- a table in blocks from lo on, below hi -/
structure Tq (w : World) (lo hi : Nat) (a0 : Option Addr) (c0 : Nat) (a1 : Option Addr) (c1 : Nat) (P C : List (Nat × Nat)) : Prop where
  p : Sl w (fun k => lo ≤ k ∧ k < hi) a0 P.length c0 (zl P)
  c : Sl w (fun k => lo ≤ k ∧ k < hi) a1 C.length c1 (zl C)
theorem Tq.kept {w w' : World} {lo hi : Nat} {a0 a1 : Option Addr} {c0 c1 : Nat} {P C : List (Nat × Nat)} {G : Nat → Prop} (h : Tq w lo hi a0 c0 a1 c1 P C) (k : Kept G w w') (hd : ∀ b, lo ≤ b → b < hi → ¬ G b) : Tq w' lo hi a0 c0 a1 c1 P C :=
  ⟨h.p.kept k (fun b hb => hd b hb.1 hb.2), h.c.kept k (fun b hb => hd b hb.1 hb.2)⟩
theorem Tq.keep {w w' : World} {lo hi : Nat} {a0 a1 : Option Addr} {c0 c1 : Nat} {P C : List (Nat × Nat)} (h : Tq w lo hi a0 c0 a1 c1 P C) (k : Kept No w w') : Tq w' lo hi a0 c0 a1 c1 P C := h.kept k (fun _ _ _ h => h)
/-- and one that may be written -/
structure Wq (w : World) (lo hi : Nat) (a0 a1 : Option Addr) (n0 n1 : Nat) : Prop where
  p : ∃ f, Rs w a0 n0 f
  c : ∃ f, Rs w a1 n1 f
  b0 : ∀ k, Blk a0 k → lo ≤ k ∧ k < hi
  b1 : ∀ k, Blk a1 k → lo ≤ k ∧ k < hi
  dis : ∀ k, Blk a0 k → ¬ Blk a1 k
theorem Wq.keep {w w' : World} {lo hi : Nat} {a0 a1 : Option Addr} {n0 n1 : Nat} (h : Wq w lo hi a0 a1 n0 n1) (k : Kept No w w') : Wq w' lo hi a0 a1 n0 n1 := by
  obtain ⟨⟨f, hf⟩, ⟨g, hg⟩, h1, h2, h3⟩ := h
  exact ⟨⟨f, hf.kept k (fun _ _ h => h)⟩, ⟨g, hg.kept k (fun _ _ h => h)⟩, h1, h2, h3⟩

theorem sl_nil (w : World) (F : Nat → Prop) : Sl w F none 0 0 [] := ⟨rfl, Nat.le_refl _, by omega, fun _ => rfl, fun i x h => by simp at h⟩
theorem rs_nil (w : World) : Rs w none 0 (fun _ => (0, 0)) := ⟨fun _ => rfl, fun i h => by omega⟩
theorem Pt.tb {w : World} {lo g : Nat} {L : List (Nat × Nat)} {c : Nat} (h : Pt w lo g L) (h1 : L.length ≤ c) (h2 : c ≤ 9223372036854775807) : Sl w (fun k => lo ≤ k ∧ k < w.heap.size) (some ⟨g, 0, none⟩) L.length c (zl L) := by
  have s := h.sl.mono (G := fun k => lo ≤ k ∧ k < w.heap.size) (fun k e => by rw [e]; exact ⟨h.lo, h.hi⟩)
  exact ⟨s.len, h1, h2, fun e => (by cases e), s.at'⟩

theorem make_A {F : Nat → Prop} {a : Option Addr} {c : Nat} {xs : List Srv} (w : World) (hg : Gl w) (h : Sv w F a xs.length c xs) (hF : ∀ k, F k → k < w.heap.size) :
    Calls Tryz.prog 9 #[.slice a xs.length c] w fun e w' => ∃ a0 a1, e = .returned (.tuple #[.agg #[.slice a0 (tP xs).length (tP xs).length, .slice a1 (tC xs).length (tC xs).length], .int .i64 (tE xs)]) ∧ Tq w' w.heap.size w'.heap.size a0 (tP xs).length a1 (tC xs).length (tP xs) (tC xs) ∧ Wq w' w.heap.size w'.heap.size a0 a1 (tP xs).length (tC xs).length ∧ Kept No w w' := by
  unfold tP tC tE
  cases ht : timF xs xs.length with
  | none =>
    refine (make_yes w hg h hF ht).mono ?_
    rintro e w' ⟨g0, g1, rfl, p0, p1, hne, hk⟩
    have l0 := p0.tb (Nat.le_refl _) (by have := Rule.runsOf_le (Rule.occ (sys xs)) 0 (hyp xs); have := (vd_of ht).hyp2; omega)
    have l1 := p1.tb (Nat.le_refl _) (by have := Rule.runsOf_le (Rule.occ (sys xs)) (hyp xs) (hyp xs); have := (vd_of ht).hyp2; omega)
    refine ⟨_, _, rfl, ⟨l0, l1⟩, ⟨p0.rs, p1.rs, fun k e => ?_, fun k e => ?_, fun k e e' => ?_⟩, hk⟩
    · injection e with e; injection e with e _ _; subst e; exact ⟨p0.lo, p0.hi⟩
    · injection e with e; injection e with e _ _; subst e; exact ⟨p1.lo, p1.hi⟩
    · injection e with e; injection e with e _ _; subst e
      injection e' with e'; injection e' with e' _ _; exact hne e'.symm
  | some p =>
    refine (make_no w hg h ht).mono ?_
    rintro e w' ⟨rfl, hk⟩
    exact ⟨none, none, rfl, ⟨sl_nil _ _, sl_nil _ _⟩, ⟨⟨_, rs_nil _⟩, ⟨_, rs_nil _⟩, fun k e => (by cases e), fun k e => (by cases e), fun k e => (by cases e)⟩, hk⟩

end Go.Proofs.YtdlijkofjnjlkaaGreatDoor
