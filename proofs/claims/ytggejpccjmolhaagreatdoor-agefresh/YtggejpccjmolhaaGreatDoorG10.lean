/-
  One text: CRef, CHyp2.
-/
import Derived.Test.YtggejpccjmolhaaGreatDoorCHyp
import Derived.Test.YtggejpccjmolhaaGreatDoorNLcmR
namespace Go.Proofs.YtggejpccjmolhaaGreatDoor
open Go.RowKit Plain
set_option linter.unusedVariables false
set_option maxRecDepth 100000
set_option linter.unusedSimpArgs false

theorem rwithin_any (n lo hi : Int) (w : World) :
    Calls Tryz.prog 29 #[.int .i64 n, .int .i64 lo, .int .i64 hi] w fun e w' => e = .returned (.bool (inB n lo hi)) ∧ w' = w := by
  by_cases h : lo ≤ n
  · by_cases h2 : n ≤ hi
    · rw [show inB n lo hi = true by simp [inB, h, h2]]
      go_enter Tryz.func29, Tryz.ntmps29
      go_wp2
      go_ret
      exact ⟨rfl, rfl⟩
    · rw [show inB n lo hi = false by simp [inB, h2]]
      go_enter Tryz.func29, Tryz.ntmps29
      go_wp2
      go_ret
      exact ⟨rfl, rfl⟩
  · rw [show inB n lo hi = false by simp [inB, h]]
    go_enter Tryz.func29, Tryz.ntmps29
    go_wp2
    go_ret
    exact ⟨rfl, rfl⟩

theorem idxF_take (xs : List Srv) (q : Int) (i : Nat) : ∀ k, k ≤ i → idxF (xs.take i) q k = idxF xs q k
  | 0, _ => rfl
  | k + 1, h => by
    have e : (xs.take i).getD k ⟨0, 0, 0, 0⟩ = xs.getD k ⟨0, 0, 0, 0⟩ := by
      simp only [List.getD_eq_getElem?_getD, List.getElem?_take]
      rw [if_pos (by omega)]
    rw [idxF, idxF, idxF_take xs q i k (by omega), e]

/-- the document's rule of one server -/
def okF (xs : List Srv) (i : Nat) : Bool :=
  decide (idxF xs (xs.getD i ⟨0, 0, 0, 0⟩).q i = -1) && (inB (xs.getD i ⟨0, 0, 0, 0⟩).p 1 1048576 && (inB (xs.getD i ⟨0, 0, 0, 0⟩).b 1 (xs.getD i ⟨0, 0, 0, 0⟩).p && (inB (xs.getD i ⟨0, 0, 0, 0⟩).o 0 (wrap64 ((xs.getD i ⟨0, 0, 0, 0⟩).p - 1)) && inB (xs.getD i ⟨0, 0, 0, 0⟩).q 0 255)))
theorem rows_ok (xs : List Srv) (i : Nat) : rowsF (fun j => if bS xs i j then 0 else 101) 5 = if okF xs i then 0 else 101 := by
  have e4 : bS xs i 4 = decide (idxF xs (xs.getD i ⟨0, 0, 0, 0⟩).q i = -1) := by
    show (!decide (0 ≤ idxF (xs.take i) (xs.getD i ⟨0, 0, 0, 0⟩).q i)) = _
    rw [idxF_take xs _ i i (Nat.le_refl _)]
    have := idx_ge xs (xs.getD i ⟨0, 0, 0, 0⟩).q i
    generalize idxF xs (xs.getD i ⟨0, 0, 0, 0⟩).q i = z at *
    by_cases h : z = -1
    · subst h; rfl
    · rw [decide_eq_false h, decide_eq_true (show 0 ≤ z by omega)]; rfl
  have e0 : bS xs i 0 = inB (xs.getD i ⟨0, 0, 0, 0⟩).p 1 1048576 := rfl
  have e1 : bS xs i 1 = inB (xs.getD i ⟨0, 0, 0, 0⟩).b 1 (xs.getD i ⟨0, 0, 0, 0⟩).p := rfl
  have e2 : bS xs i 2 = inB (xs.getD i ⟨0, 0, 0, 0⟩).o 0 (wrap64 ((xs.getD i ⟨0, 0, 0, 0⟩).p - 1)) := rfl
  have e3 : bS xs i 3 = inB (xs.getD i ⟨0, 0, 0, 0⟩).q 0 255 := rfl
  unfold okF
  rw [← e0, ← e1, ← e2, ← e3, ← e4]
  simp only [rowsF]
  cases bS xs i 0 <;> cases bS xs i 1 <;> cases bS xs i 2 <;> cases bS xs i 3 <;> cases bS xs i 4 <;> rfl

set_option maxHeartbeats 1000000 in
theorem rserver_any (F : Nat → Prop) (a : Option Addr) (n c : Nat) (xs : List Srv) (i : Nat) (w : World) (h : Sv w F a n c xs) (hi : i < n) :
    Calls Tryz.prog 30 #[.slice a n c, .int .i64 i] w fun e w' => e = .returned (.bool (okF xs i)) ∧ Kept No w w' := by
  have hn : n ≤ 9223372036854775807 := Nat.le_trans h.cap h.max
  have H : Hid (Sv w F a n c xs) := h
  have hx : xs[i]? = some (xs.getD i ⟨0, 0, 0, 0⟩) := by rw [List.getD, List.getElem?_eq_getElem (by rw [h.len]; exact hi)]; rfl
  obtain ⟨hok, b, o, rfl, hb, c0, c1, c2, c3⟩ := h.at' i _ hx
  have HO : Hid (okF xs i = (decide (idxF xs (xs.getD i ⟨0, 0, 0, 0⟩).q i = -1) && (inB (xs.getD i ⟨0, 0, 0, 0⟩).p 1 1048576 && (inB (xs.getD i ⟨0, 0, 0, 0⟩).b 1 (xs.getD i ⟨0, 0, 0, 0⟩).p && (inB (xs.getD i ⟨0, 0, 0, 0⟩).o 0 (wrap64 ((xs.getD i ⟨0, 0, 0, 0⟩).p - 1)) && inB (xs.getD i ⟨0, 0, 0, 0⟩).q 0 255))))) := rfl
  clear h hx hok hb
  generalize xs.getD i ⟨0, 0, 0, 0⟩ = y at *
  obtain ⟨yp, yb, yo, yq⟩ := y
  simp only at c0 c1 c2 c3 HO
  generalize okF xs i = R at *
  have HK1 : Hid (Kept No w (w.alloc (.cells #[.int .i64 yp, .int .i64 yb, .int .i64 yo, .int .i64 yq] 50))) := (Kept.refl No w).alloc _
  obtain ⟨b0, q0⟩ : ∃ z, inB yp 1 1048576 = z := ⟨_, rfl⟩
  obtain ⟨b1, q1⟩ : ∃ z, inB yb 1 yp = z := ⟨_, rfl⟩
  obtain ⟨b2, q2⟩ : ∃ z, inB yo 0 (wrap64 (yp - 1)) = z := ⟨_, rfl⟩
  obtain ⟨b3, q3⟩ : ∃ z, inB yq 0 255 = z := ⟨_, rfl⟩
  rw [q0, q1, q2, q3] at HO
  have Q0 : Hid (inB yp 1 1048576 = b0) := q0
  have Q1 : Hid (inB yb 1 yp = b1) := q1
  have Q2 : Hid (inB yo 0 (wrap64 (yp - 1)) = b2) := q2
  have Q3 : Hid (inB yq 0 255 = b3) := q3
  clear q0 q1 q2 q3
  go_enter Tryz.func30, Tryz.ntmps30
  go_upto_region 2 with fail
  generalize hW1 : w.alloc (.cells #[.int .i64 yp, .int .i64 yb, .int .i64 yo, .int .i64 yq] 50) = w1 at *
  have HCY : Hid (w1.cell? ⟨w.heap.size, 0, none⟩ = some (.int .i64 yp) ∧ w1.cell? ⟨w.heap.size, 1, none⟩ = some (.int .i64 yb) ∧ w1.cell? ⟨w.heap.size, 2, none⟩ = some (.int .i64 yo) ∧ w1.cell? ⟨w.heap.size, 3, none⟩ = some (.int .i64 yq)) := by subst hW1; exact ⟨by simp, by simp, by simp, by simp⟩
  clear hW1 c0 c1 c2 c3
  go_wp2
  go_loopw [6] (fun x wr => ∃ k : Nat, k ≤ i ∧ x = .int .i64 k ∧ (∃ m, wr = w1.drewN m) ∧ idxF xs yq k = -1) (fun x _ => i - (intOf x).toNat)
  case atStart => exact ⟨0, by omega, rfl, ⟨0, rfl⟩, rfl⟩
  case round =>
    obtain ⟨k, hk, rfl, ⟨m, rfl⟩, hno⟩ := hrel
    have HNO : Hid (idxF xs yq k = -1) := hno
    clear hno
    by_cases hlt : k < i
    · have hx : xs[k]? = some (xs.getD k ⟨0, 0, 0, 0⟩) := by rw [List.getD, List.getElem?_eq_getElem (by rw [H.out.len]; omega)]; rfl
      obtain ⟨hok, b', o', he, hb, d0, d1, d2, d3⟩ := (H.out.keep HK1.out).at' k _ hx
      simp only [Option.some.injEq, Addr.mk.injEq, and_true] at he
      obtain ⟨rfl, rfl⟩ := he
      have z3 := HCY.out.2.2.2
      clear d0 d1 d2 hx hok hb
      by_cases hq : (xs.getD k ⟨0, 0, 0, 0⟩).q = yq
      · have HF : Hid (idxF xs yq i = k) := idxF_hit HNO.out hq i hlt
        have HR : Hid (R = false) := by
          have := HO.out
          rw [HF.out, decide_eq_false (show ¬ (k : Int) = -1 by omega), Bool.false_and] at this
          exact this
        rw [hq] at d3
        go_wp2
        go_quiet (fail)
        go_wp2
        go_ret
        exact ⟨by rw [HR.out]; rfl, (HK1.out.drewN _).drewN _⟩
      · have HF : Hid (idxF xs yq (k + 1) = -1) := idxF_miss HNO.out hq
        have hq2 : ¬ (xs.getD k ⟨0, 0, 0, 0⟩).q = yq := hq
        generalize (xs.getD k ⟨0, 0, 0, 0⟩).q = q' at *
        go_wp2
        go_quiet (fail)
        go_wp2
        go_roundw
        case rel => exact ⟨k + 1, by omega, by go_num, ⟨_, rfl⟩, HF.out⟩
        case measure => simp [intOf]; omega
    · have hke : k = i := by omega
      subst hke
      have HR : Hid (R = (b0 && (b1 && (b2 && b3)))) := by
        have := HO.out
        rw [HNO.out] at this
        have t2 : R = (b0 && (b1 && (b2 && b3))) := by simpa using this
        exact t2
      obtain ⟨z0, z1, z2, z3⟩ := HCY.out
      clear HO HNO HCY
      have q0 := Q0.out
      have q1 := Q1.out
      have q2 := Q2.out
      have q3 := Q3.out
      cases b0
      · go_wp2_with (go_at_call 29; refine (rwithin_any _ _ _ _).mono ?_; rintro e w' ⟨rfl, rfl⟩; (try simp only [q0, q1, q2, q3]))
        go_ret
        exact ⟨by rw [HR.out]; rfl, HK1.out.drewN _⟩
      cases b1
      · go_wp2_with (go_at_call 29; refine (rwithin_any _ _ _ _).mono ?_; rintro e w' ⟨rfl, rfl⟩; (try simp only [q0, q1, q2, q3]))
        go_ret
        exact ⟨by rw [HR.out]; rfl, HK1.out.drewN _⟩
      cases b2
      · go_wp2_with (go_at_call 29; refine (rwithin_any _ _ _ _).mono ?_; rintro e w' ⟨rfl, rfl⟩; (try simp only [q0, q1, q2, q3]))
        go_ret
        exact ⟨by rw [HR.out]; rfl, HK1.out.drewN _⟩
      cases b3
      · go_wp2_with (go_at_call 29; refine (rwithin_any _ _ _ _).mono ?_; rintro e w' ⟨rfl, rfl⟩; (try simp only [q0, q1, q2, q3]))
        go_ret
        exact ⟨by rw [HR.out]; rfl, HK1.out.drewN _⟩
      · go_wp2_with (go_at_call 29; refine (rwithin_any _ _ _ _).mono ?_; rintro e w' ⟨rfl, rfl⟩; (try simp only [q0, q1, q2, q3]))
        go_ret
        exact ⟨by rw [HR.out]; rfl, HK1.out.drewN _⟩

theorem servF_ok (xs : List Srv) (n : Nat) : servF xs n = eachF (fun i => if okF xs i then 0 else 101) 1 n := by
  unfold servF
  congr 1
  funext i
  exact rows_ok xs i

set_option maxHeartbeats 2000000 in
theorem rservers_any (F : Nat → Prop) (a : Option Addr) (n c : Nat) (xs : List Srv) (w : World) (h : Sv w F a n c xs) :
    Calls Tryz.prog 16 #[.slice a n c] w fun e w' => e = .returned (.tuple #[.int .i64 (fe (findF xs n)), .int .i64 (fn (findF xs n))]) ∧ Kept No w w' := by
  have hn : n ≤ 9223372036854775807 := Nat.le_trans h.cap h.max
  have H : Hid (Sv w F a n c xs) := h
  clear h
  by_cases h32 : n ≤ 32
  · have HF : Hid (findF xs n = eachF (fun i => if okF xs i then 0 else 101) 1 n) := by show findF xs n = _; unfold findF; rw [if_pos h32, servF_ok]
    rw [HF.out]
    obtain ⟨fe0, hfe⟩ : ∃ z, z = fe (eachF (fun i => if okF xs i then 0 else 101) 1 n) := ⟨_, rfl⟩
    obtain ⟨fn0, hfn⟩ : ∃ z, z = fn (eachF (fun i => if okF xs i then 0 else 101) 1 n) := ⟨_, rfl⟩
    rw [← hfe, ← hfn]
    have HFE : Hid (fe0 = fe (eachF (fun i => if okF xs i then 0 else 101) 1 n)) := hfe
    have HFN : Hid (fn0 = fn (eachF (fun i => if okF xs i then 0 else 101) 1 n)) := hfn
    clear hfe hfn HF
    go_enter Tryz.func16, Tryz.ntmps16
    go_wp2
    go_loopw [4] (fun x wr => ∃ k : Nat, k ≤ n ∧ x = .int .i64 k ∧ Kept No w wr ∧ eachF (fun i => if okF xs i then 0 else 101) 1 k = none) (fun x _ => n - (intOf x).toNat)
    case atStart => exact ⟨0, by omega, rfl, Kept.refl No w, rfl⟩
    case round =>
      obtain ⟨k, hk, rfl, hkr, hno⟩ := hrel
      have HNO : Hid (eachF (fun i => if okF xs i then 0 else 101) 1 k = none) := hno
      have HKR : Hid (Kept No w wr) := hkr
      clear hno
      by_cases hlt : k < n
      · have hc := rserver_any F a n c xs k wr (H.out.keep hkr) hlt
        clear hkr
        cases hb : okF xs k
        · have HE : Hid (fe0 = 101 ∧ fn0 = 1 + k) := by
            have := eachF_hit (r := fun i => if okF xs i then 0 else 101) HNO.out (by simp [hb]) n hlt
            have e1 := HFE.out
            have e2 := HFN.out
            rw [this] at e1 e2
            simp only [hb] at e1 e2
            exact ⟨e1, e2⟩
          rw [hb] at hc
          clear hb
          go_wp2_with (go_at_call 30; refine hc.mono ?_; rintro e w' ⟨rfl, hk1⟩; have HK2 : Hid (Kept No w w') := HKR.out.trans hk1 (fun _ h => h.elim); clear hk1)
          go_ret2
          refine ⟨?_, HK2.out⟩
          rw [HE.out.1, HE.out.2, Int.add_comm]
          rfl
        · have HE : Hid (eachF (fun i => if okF xs i then 0 else 101) 1 (k + 1) = none) := eachF_miss (r := fun i => if okF xs i then 0 else 101) HNO.out (by simp [hb])
          rw [hb] at hc
          clear hb
          go_wp2_with (go_at_call 30; refine hc.mono ?_; rintro e w' ⟨rfl, hk1⟩; have HK2 : Hid (Kept No w w') := HKR.out.trans hk1 (fun _ h => h.elim); clear hk1)
          go_roundw
          case rel => exact ⟨k + 1, by omega, by go_num, HK2.out, HE.out⟩
          case measure => simp [intOf]; omega
      · have hke : k = n := by omega
        subst hke
        have HE : Hid (fe0 = 0 ∧ fn0 = 0) := by
          have e1 := HFE.out
          have e2 := HFN.out
          rw [HNO.out] at e1 e2
          exact ⟨e1, e2⟩
        clear hkr
        go_wp2
        go_ret2
        refine ⟨?_, HKR.out⟩
        rw [HE.out.1, HE.out.2]
        rfl
  · have HF : Hid (findF xs n = some (100, 0)) := by show findF xs n = some (100, 0); unfold findF; rw [if_neg h32]
    rw [HF.out]
    show Calls Tryz.prog 16 #[.slice a n c] w fun e w' => e = .returned (.tuple #[.int .i64 100, .int .i64 0]) ∧ Kept No w w'
    have HK : Hid (Kept No w w) := Kept.refl No w
    go_enter Tryz.func16, Tryz.ntmps16
    go_wp2
    go_ret2
    exact ⟨rfl, HK.out⟩
end Go.Proofs.YtggejpccjmolhaaGreatDoor

namespace Go.Proofs.YtggejpccjmolhaaGreatDoor
open Go.RowKit Plain
set_option linter.unusedVariables false
set_option maxRecDepth 100000

set_option maxHeartbeats 4000000 in
theorem releases_any (F : Nat → Prop) (a : Option Addr) (n c : Nat) (xs : List Srv) (w : World) (h : Sv w F a n c xs) (hn : n ≤ 32) (hp : ∀ i, i < n → 1 ≤ zP xs i) :
    Calls Tryz.prog 131 #[.slice a n c] w fun e w' => e = .returned (.int .i64 (relF (lcmV (zP xs) n 1048576) xs n)) ∧ Kept No w w' := by
  have hc := multiple_any F a n c xs w h (by omega)
  have H : Hid (Sv w F a n c xs) := h
  have HP : Hid (∀ i, i < n → 1 ≤ zP xs i) := hp
  obtain ⟨l0, l1⟩ := lcm_bd xs n
  clear h hp
  generalize lcmV (zP xs) n 1048576 = z1 at *
  generalize lcmB (zP xs) n 1048576 = z2 at *
  have HBD : Hid (∀ k, k ≤ n → 0 ≤ relF z1 xs k ∧ relF z1 xs k ≤ k * 2097152) := fun k hk => relF_bd (xs := xs) l0 l1 k (fun i hi => HP.out i (by omega))

  go_enter Tryz.func131, Tryz.ntmps131
  go_wp2_with (go_at_call 163; refine hc.mono ?_; rintro e w1 ⟨rfl, hk1⟩; have HK1 : Hid (Kept No w w1) := hk1; clear hk1)
  clear hc
  go_loopw [5, 15] (fun v x wr => ∃ k : Nat, k ≤ n ∧ x = .int .i64 k ∧ Kept No w wr ∧ v = .int .i64 (relF z1 xs k)) (fun _ x _ => n - (intOf x).toNat)
  case atStart => exact ⟨0, by omega, rfl, HK1.out, rfl⟩
  case round =>
    clear HK1
    obtain ⟨k, hk, rfl, hkr, rfl⟩ := hrel
    by_cases hlt : k < n
    · have hx : xs[k]? = some (xs.getD k ⟨0, 0, 0, 0⟩) := by rw [List.getD, List.getElem?_eq_getElem (by rw [H.out.len]; exact hlt)]; rfl
      obtain ⟨hok, b, o, rfl, hb, c0, c1, c2, c3⟩ := (H.out.keep hkr).at' k _ hx
      have hpk : 1 ≤ (xs.getD k ⟨0, 0, 0, 0⟩).p := HP.out k hlt
      have HS : Hid (relF z1 xs (k + 1) = relF z1 xs k + (2 * z1) / (xs.getD k ⟨0, 0, 0, 0⟩).p) := rfl
      have hpm : (xs.getD k ⟨0, 0, 0, 0⟩).p ≤ 9223372036854775807 := hok.1.2
      obtain ⟨r0, r1⟩ := HBD.out k hk
      have r2 : relF z1 xs k ≤ 67108864 := by
        have : (k : Int) * 2097152 ≤ 67108864 := by omega
        omega
      have HKR : Hid (Kept No w wr) := hkr
      clear hx hok hkr r1
      generalize xs.getD k ⟨0, 0, 0, 0⟩ = y at *
      obtain ⟨yp, yb, yo, yq⟩ := y
      simp only at c0 c1 c2 c3 HS hpk hpm
      generalize relF z1 xs k = rk at *
      have hd0 : 0 ≤ (2 * z1) / yp := Int.ediv_nonneg (by omega) (by omega)
      have hd1 : (2 * z1) / yp ≤ 2 * z1 := Int.ediv_le_self _ (by omega)
      go_wp2
      go_roundw
      case rel => exact ⟨k + 1, by omega, by go_num, HKR.out.alloc _, by rw [HS.out]⟩
      case measure => simp [intOf]; omega
    · have hke : k = n := by omega
      subst hke
      have HKR : Hid (Kept No w wr) := hkr
      clear hkr
      go_wp2
      go_ret
      exact ⟨rfl, HKR.out⟩

theorem hasHyper_any (F : Nat → Prop) (a : Option Addr) (n c : Nat) (xs : List Srv) (w : World) (h : Sv w F a n c xs) (hn : n ≤ 70000) :
    Calls Tryz.prog 129 #[.slice a n c] w fun e w' => e = .returned (.bool (lcmB (zP xs) n 1048576)) ∧ Kept No w w' := by
  have hc := multiple_any F a n c xs w h hn
  clear h
  generalize lcmV (zP xs) n 1048576 = z1 at *
  generalize lcmB (zP xs) n 1048576 = z2 at *
  go_enter Tryz.func129, Tryz.ntmps129
  go_wp2_with (go_at_call 163; refine hc.mono ?_; rintro e w1 ⟨rfl, hk1⟩; have HK1 : Hid (Kept No w w1) := hk1; clear hk1)
  go_ret
  exact ⟨rfl, HK1.out⟩

theorem trow2 (F : Nat → Prop) (a : Option Addr) (n c : Nat) (xs : List Srv) (w : World) (h : Sv w F a n c xs) (hn : n ≤ 32) (hp : ∀ i, i < n → 1 ≤ zP xs i) :
    Calls Tryz.prog 130 #[.slice a n c] w fun e w' => e = .returned (.bool (decide (relF (lcmV (zP xs) n 1048576) xs n ≤ 65536))) ∧ Kept No w w' := by
  have hc := releases_any F a n c xs w h hn hp
  clear h hp
  generalize relF (lcmV (zP xs) n 1048576) xs n = z1 at *
  go_enter Tryz.func130, Tryz.ntmps130
  go_wp2_with (go_at_call 131; refine hc.mono ?_; rintro e w1 ⟨rfl, hk1⟩; have HK1 : Hid (Kept No w w1) := hk1; clear hk1)
  go_ret
  exact ⟨rfl, HK1.out⟩

def rsT : Nat → Rw
  | 0 => ⟨102, .func (.func 129) #[] #[], .nilFunc, .nilFunc, rfl, rfl, rfl⟩
  | _ => ⟨103, .func (.func 130) #[] #[], .nilFunc, .nilFunc, rfl, rfl, rfl⟩
theorem table2 (w : World) : Calls Tryz.prog 83 #[] w fun e w' => ∃ tb, e = .returned (.slice (some ⟨tb, 0, none⟩) 2 2) ∧ Tb w' tb 2 rsT ∧ Kept No w w' := by
  have HK : Hid (∀ o, Kept No w (w.alloc o)) := fun o => (Kept.refl No w).alloc o
  go_enter Tryz.func83, Tryz.ntmps83
  go_wp2
  go_ret
  refine ⟨_, rfl, ?_, HK.out _⟩
  intro j hj
  match j, hj with
  | 0, _ => exact ⟨by simp [rsT], by simp [rsT], by simp [rsT], by simp [rsT]⟩
  | 1, _ => exact ⟨by simp [rsT], by simp [rsT], by simp [rsT], by simp [rsT]⟩

/-- of servers that may be one by one: all of them together -/
def togF (xs : List Srv) (n : Nat) : Option (Int × Int) :=
  if lcmB (zP xs) n 1048576 then (if relF (lcmV (zP xs) n 1048576) xs n ≤ 65536 then none else some (103, 0)) else some (102, 0)
def timF (xs : List Srv) (n : Nat) : Option (Int × Int) := match findF xs n with
  | some p => some p
  | none => togF xs n

theorem tog_any (F : Nat → Prop) (a : Option Addr) (n c : Nat) (xs : List Srv) (tb : Nat) (w : World) (h : Sv w F a n c xs) (hf : findF xs n = none) (hT : Tb w tb 2 rsT) :
    Calls Tryz.prog 82 #[.slice a n c, .slice (some ⟨tb, 0, none⟩) 2 2] w fun e w' => e = .returned (fv (togF xs n)) ∧ Kept No w w' := by
  obtain ⟨hn, hp⟩ := findF_none hf
  have := whole_any a n c tb 2 rsT (fun j => match j with | 0 => if lcmB (zP xs) n 1048576 then 0 else 102 | _ => if decide (relF (lcmV (zP xs) n 1048576) xs n ≤ 65536) then 0 else 103) w (by omega) hT (fun j w2 aa hj hw2 => by
    match j, hj with
    | 0, _ => exact findsSl_alone 102 _ #[] a n c aa 0 1 w2 (enters_of Tryz.func129 (by kernel_rfl) rfl) _ (fun w3 hw3 => hasHyper_any F a n c xs w3 ((h.keep hw2).keep hw3) (by omega))
    | 1, _ => exact findsSl_alone 103 _ #[] a n c aa 0 1 w2 (enters_of Tryz.func130 (by kernel_rfl) rfl) _ (fun w3 hw3 => trow2 F a n c xs w3 ((h.keep hw2).keep hw3) hn (fun i hi => (hp i hi).1)))
  have e : (if rowsF (fun j => match j with | 0 => if lcmB (zP xs) n 1048576 then 0 else 102 | _ => if decide (relF (lcmV (zP xs) n 1048576) xs n ≤ 65536) then 0 else 103) 2 = 0 then none else some (rowsF (fun j => match j with | 0 => if lcmB (zP xs) n 1048576 then 0 else 102 | _ => if decide (relF (lcmV (zP xs) n 1048576) xs n ≤ 65536) then 0 else 103) 2, (0 : Int))) = togF xs n := by
    unfold togF
    by_cases h1 : lcmB (zP xs) n 1048576 = true <;> by_cases h2 : relF (lcmV (zP xs) n 1048576) xs n ≤ 65536 <;> simp [rowsF, h1, h2]
  rw [e] at this
  exact this

theorem fv_some (p : Int × Int) : fv (some p) = Value.iface 118 (.agg #[.int .i64 p.1, .int .i64 p.2]) := rfl

set_option maxHeartbeats 2000000 in
theorem findTiming_any (F : Nat → Prop) (a : Option Addr) (n c : Nat) (xs : List Srv) (w : World) (h : Sv w F a n c xs) :
    Calls Tryz.prog 56 #[.slice a n c] w fun e w' => e = .returned (fv (timF xs n)) ∧ Kept No w w' := by
  have hc := findServer_any F a n c xs w h
  cases hf : findF xs n with
  | some p =>
    have HF : Hid (timF xs n = some p) := by show timF xs n = some p; unfold timF; rw [hf]
    rw [HF.out, fv_some]
    rw [hf, fv_some] at hc
    clear hf h
    go_enter Tryz.func56, Tryz.ntmps56
    go_wp2_with (go_at_call 81; refine hc.mono ?_; rintro e w1 ⟨rfl, hk1⟩; have HK1 : Hid (Kept No w w1) := hk1; clear hk1)
    go_ret
    exact ⟨rfl, HK1.out⟩
  | none =>
    have HF : Hid (timF xs n = togF xs n) := by show timF xs n = togF xs n; unfold timF; rw [hf]
    have H2 : Hid (∀ w', Kept No w w' → ∀ tb, Tb w' tb 2 rsT → Calls Tryz.prog 82 #[.slice a n c, .slice (some ⟨tb, 0, none⟩) 2 2] w' fun e w'' => e = .returned (fv (togF xs n)) ∧ Kept No w' w'') := fun w' hw tb hT => tog_any F a n c xs tb w' (h.keep hw) hf hT
    rw [HF.out]
    rw [hf, show fv none = Value.nilIface from rfl] at hc
    clear hf h
    generalize togF xs n = z at *
    go_enter Tryz.func56, Tryz.ntmps56
    go_wp2_with (first
      | (go_at_call 81; refine hc.mono ?_; rintro e w1 ⟨rfl, hk1⟩; have HK1 : Hid (Kept No w w1) := hk1; clear hk1)
      | (go_at_call 83; refine (table2 _).mono ?_; rintro e w3 ⟨tb3, rfl, hT, hk1⟩; have HK3 : Hid (Kept No w w3) := HK1.out.trans hk1 (fun _ h => h.elim); have hc3 := H2.out w3 HK3.out tb3 hT; clear hT hk1)
      | (go_at_call 82; refine hc3.mono ?_; rintro e w4 ⟨rfl, hk2⟩; have HK4 : Hid (Kept No w w4) := HK3.out.trans hk2 (fun _ h => h.elim); clear hk2 hc3))
    go_ret
    exact ⟨rfl, HK4.out⟩

def hyV (xs : List Srv) (n : Nat) : Int := match timF xs n with
  | some _ => 0
  | none => lcmV (zP xs) n 1048576
def hyE (xs : List Srv) (n : Nat) : Int := match timF xs n with
  | some p => p.1
  | none => 0

theorem tim_none {xs : List Srv} {n : Nat} (h : timF xs n = none) : findF xs n = none := by
  unfold timF at h
  cases hf : findF xs n with
  | none => rfl
  | some p => rw [hf] at h; cases h
end Go.Proofs.YtggejpccjmolhaaGreatDoor
