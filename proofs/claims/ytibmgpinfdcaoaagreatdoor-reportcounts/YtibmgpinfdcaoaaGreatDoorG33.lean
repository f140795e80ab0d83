/-
  One text: CRef, CRef2.
-/
import Derived.Test.YtibmgpinfdcaoaaGreatDoorG08
import Derived.Test.YtibmgpinfdcaoaaGreatDoorHNLcmR
namespace Go.Proofs.YtibmgpinfdcaoaaGreatDoor
open Go.RowKit Plain
set_option linter.unusedVariables false
set_option maxRecDepth 100000
set_option linter.unusedSimpArgs false

theorem rwithin_any (n lo hi : Int) (w : World) :
    Calls Tryz.prog 61 #[.int .i64 n, .int .i64 lo, .int .i64 hi] w fun e w' => e = .returned (.bool (inB n lo hi)) ∧ w' = w := by
  by_cases h : lo ≤ n
  · by_cases h2 : n ≤ hi
    · rw [show inB n lo hi = true by simp [inB, h, h2]]
      go_enter Tryz.func61, Tryz.ntmps61
      go_wp2
      go_ret
      exact ⟨rfl, rfl⟩
    · rw [show inB n lo hi = false by simp [inB, h2]]
      go_enter Tryz.func61, Tryz.ntmps61
      go_wp2
      go_ret
      exact ⟨rfl, rfl⟩
  · rw [show inB n lo hi = false by simp [inB, h]]
    go_enter Tryz.func61, Tryz.ntmps61
    go_wp2
    go_ret
    exact ⟨rfl, rfl⟩

theorem idxF_take (xs : List Srv) (q : Int) (i : Nat) : ∀ k, k ≤ i → idxF (xs.take i) q k = idxF xs q k
  | 0, _ => rfl
  | k + 1, h => by
    have e : (xs.take i).getD k ⟨0, 0, 0, 0⟩ = xs.getD k ⟨0, 0, 0, 0⟩ := by
      simp only [List.getD_eq_getElem?_getD, List.getElem?_take]
      rw [if_pos (by omega)]
    rw [idxF, idxF, idxF_take xs q i k (by omega), e]

/-- the document's rule of one server -/
def okF (xs : List Srv) (i : Nat) : Bool :=
  decide (idxF xs (xs.getD i ⟨0, 0, 0, 0⟩).q i = -1) && (inB (xs.getD i ⟨0, 0, 0, 0⟩).p 1 1048576 && (inB (xs.getD i ⟨0, 0, 0, 0⟩).b 1 (xs.getD i ⟨0, 0, 0, 0⟩).p && (inB (xs.getD i ⟨0, 0, 0, 0⟩).o 0 (wrap64 ((xs.getD i ⟨0, 0, 0, 0⟩).p - 1)) && inB (xs.getD i ⟨0, 0, 0, 0⟩).q 0 255)))
theorem rows_ok (xs : List Srv) (i : Nat) : rowsF (fun j => if bS xs i j then 0 else 101) 5 = if okF xs i then 0 else 101 := by
  have e4 : bS xs i 4 = decide (idxF xs (xs.getD i ⟨0, 0, 0, 0⟩).q i = -1) := by
    show (!decide (0 ≤ idxF (xs.take i) (xs.getD i ⟨0, 0, 0, 0⟩).q i)) = _
    rw [idxF_take xs _ i i (Nat.le_refl _)]
    have := idx_ge xs (xs.getD i ⟨0, 0, 0, 0⟩).q i
    generalize idxF xs (xs.getD i ⟨0, 0, 0, 0⟩).q i = z at *
    by_cases h : z = -1
    · subst h; rfl
    · rw [decide_eq_false h, decide_eq_true (show 0 ≤ z by omega)]; rfl
  have e0 : bS xs i 0 = inB (xs.getD i ⟨0, 0, 0, 0⟩).p 1 1048576 := rfl
  have e1 : bS xs i 1 = inB (xs.getD i ⟨0, 0, 0, 0⟩).b 1 (xs.getD i ⟨0, 0, 0, 0⟩).p := rfl
  have e2 : bS xs i 2 = inB (xs.getD i ⟨0, 0, 0, 0⟩).o 0 (wrap64 ((xs.getD i ⟨0, 0, 0, 0⟩).p - 1)) := rfl
  have e3 : bS xs i 3 = inB (xs.getD i ⟨0, 0, 0, 0⟩).q 0 255 := rfl
  unfold okF
  rw [← e0, ← e1, ← e2, ← e3, ← e4]
  simp only [rowsF]
  cases bS xs i 0 <;> cases bS xs i 1 <;> cases bS xs i 2 <;> cases bS xs i 3 <;> cases bS xs i 4 <;> rfl

set_option maxHeartbeats 1000000 in
theorem rserver_any (F : Nat → Prop) (a : Option Addr) (n c : Nat) (xs : List Srv) (i : Nat) (w : World) (h : Sv w F a n c xs) (hi : i < n) :
    Calls Tryz.prog 47 #[.slice a n c, .int .i64 i] w fun e w' => e = .returned (.bool (okF xs i)) ∧ Kept No w w' := by
  have hn : n ≤ 9223372036854775807 := Nat.le_trans h.cap h.max
  have H : Hid (Sv w F a n c xs) := h
  have hx : xs[i]? = some (xs.getD i ⟨0, 0, 0, 0⟩) := by rw [List.getD, List.getElem?_eq_getElem (by rw [h.len]; exact hi)]; rfl
  obtain ⟨hok, b, o, rfl, hb, c0, c1, c2, c3⟩ := h.at' i _ hx
  have HO : Hid (okF xs i = (decide (idxF xs (xs.getD i ⟨0, 0, 0, 0⟩).q i = -1) && (inB (xs.getD i ⟨0, 0, 0, 0⟩).p 1 1048576 && (inB (xs.getD i ⟨0, 0, 0, 0⟩).b 1 (xs.getD i ⟨0, 0, 0, 0⟩).p && (inB (xs.getD i ⟨0, 0, 0, 0⟩).o 0 (wrap64 ((xs.getD i ⟨0, 0, 0, 0⟩).p - 1)) && inB (xs.getD i ⟨0, 0, 0, 0⟩).q 0 255))))) := rfl
  clear h hx hok hb
  generalize xs.getD i ⟨0, 0, 0, 0⟩ = y at *
  obtain ⟨yp, yb, yo, yq⟩ := y
  simp only at c0 c1 c2 c3 HO
  generalize okF xs i = R at *
  have HK1 : Hid (Kept No w (w.alloc (.cells #[.int .i64 yp, .int .i64 yb, .int .i64 yo, .int .i64 yq] 40))) := (Kept.refl No w).alloc _
  obtain ⟨b0, q0⟩ : ∃ z, inB yp 1 1048576 = z := ⟨_, rfl⟩
  obtain ⟨b1, q1⟩ : ∃ z, inB yb 1 yp = z := ⟨_, rfl⟩
  obtain ⟨b2, q2⟩ : ∃ z, inB yo 0 (wrap64 (yp - 1)) = z := ⟨_, rfl⟩
  obtain ⟨b3, q3⟩ : ∃ z, inB yq 0 255 = z := ⟨_, rfl⟩
  rw [q0, q1, q2, q3] at HO
  have Q0 : Hid (inB yp 1 1048576 = b0) := q0
  have Q1 : Hid (inB yb 1 yp = b1) := q1
  have Q2 : Hid (inB yo 0 (wrap64 (yp - 1)) = b2) := q2
  have Q3 : Hid (inB yq 0 255 = b3) := q3
  clear q0 q1 q2 q3
  go_enter Tryz.func47, Tryz.ntmps47
  go_upto_region 2 with fail
  generalize hW1 : w.alloc (.cells #[.int .i64 yp, .int .i64 yb, .int .i64 yo, .int .i64 yq] 40) = w1 at *
  have HCY : Hid (w1.cell? ⟨w.heap.size, 0, none⟩ = some (.int .i64 yp) ∧ w1.cell? ⟨w.heap.size, 1, none⟩ = some (.int .i64 yb) ∧ w1.cell? ⟨w.heap.size, 2, none⟩ = some (.int .i64 yo) ∧ w1.cell? ⟨w.heap.size, 3, none⟩ = some (.int .i64 yq)) := by subst hW1; exact ⟨by simp, by simp, by simp, by simp⟩
  clear hW1 c0 c1 c2 c3
  go_wp2
  go_loopw [6] (fun x wr => ∃ k : Nat, k ≤ i ∧ x = .int .i64 k ∧ (∃ m, wr = w1.drewN m) ∧ idxF xs yq k = -1) (fun x _ => i - (intOf x).toNat)
  case atStart => exact ⟨0, by omega, rfl, ⟨0, rfl⟩, rfl⟩
  case round =>
    obtain ⟨k, hk, rfl, ⟨m, rfl⟩, hno⟩ := hrel
    have HNO : Hid (idxF xs yq k = -1) := hno
    clear hno
    by_cases hlt : k < i
    · have hx : xs[k]? = some (xs.getD k ⟨0, 0, 0, 0⟩) := by rw [List.getD, List.getElem?_eq_getElem (by rw [H.out.len]; omega)]; rfl
      obtain ⟨hok, b', o', he, hb, d0, d1, d2, d3⟩ := (H.out.keep HK1.out).at' k _ hx
      simp only [Option.some.injEq, Addr.mk.injEq, and_true] at he
      obtain ⟨rfl, rfl⟩ := he
      have z3 := HCY.out.2.2.2
      clear d0 d1 d2 hx hok hb
      by_cases hq : (xs.getD k ⟨0, 0, 0, 0⟩).q = yq
      · have HF : Hid (idxF xs yq i = k) := idxF_hit HNO.out hq i hlt
        have HR : Hid (R = false) := by
          have := HO.out
          rw [HF.out, decide_eq_false (show ¬ (k : Int) = -1 by omega), Bool.false_and] at this
          exact this
        rw [hq] at d3
        go_wp2
        go_quiet (fail)
        go_wp2
        go_ret
        exact ⟨by rw [HR.out]; rfl, (HK1.out.drewN _).drewN _⟩
      · have HF : Hid (idxF xs yq (k + 1) = -1) := idxF_miss HNO.out hq
        have hq2 : ¬ (xs.getD k ⟨0, 0, 0, 0⟩).q = yq := hq
        generalize (xs.getD k ⟨0, 0, 0, 0⟩).q = q' at *
        go_wp2
        go_quiet (fail)
        go_wp2
        go_roundw
        case rel => exact ⟨k + 1, by omega, by go_num, ⟨_, rfl⟩, HF.out⟩
        case measure => simp [intOf]; omega
    · have hke : k = i := by omega
      subst hke
      have HR : Hid (R = (b0 && (b1 && (b2 && b3)))) := by
        have := HO.out
        rw [HNO.out] at this
        have t2 : R = (b0 && (b1 && (b2 && b3))) := by simpa using this
        exact t2
      obtain ⟨z0, z1, z2, z3⟩ := HCY.out
      clear HO HNO HCY
      have q0 := Q0.out
      have q1 := Q1.out
      have q2 := Q2.out
      have q3 := Q3.out
      cases b0
      · go_wp2_with (go_at_call 61; refine (rwithin_any _ _ _ _).mono ?_; rintro e w' ⟨rfl, rfl⟩; (try simp only [q0, q1, q2, q3]))
        go_ret
        exact ⟨by rw [HR.out]; rfl, HK1.out.drewN _⟩
      cases b1
      · go_wp2_with (go_at_call 61; refine (rwithin_any _ _ _ _).mono ?_; rintro e w' ⟨rfl, rfl⟩; (try simp only [q0, q1, q2, q3]))
        go_ret
        exact ⟨by rw [HR.out]; rfl, HK1.out.drewN _⟩
      cases b2
      · go_wp2_with (go_at_call 61; refine (rwithin_any _ _ _ _).mono ?_; rintro e w' ⟨rfl, rfl⟩; (try simp only [q0, q1, q2, q3]))
        go_ret
        exact ⟨by rw [HR.out]; rfl, HK1.out.drewN _⟩
      cases b3
      · go_wp2_with (go_at_call 61; refine (rwithin_any _ _ _ _).mono ?_; rintro e w' ⟨rfl, rfl⟩; (try simp only [q0, q1, q2, q3]))
        go_ret
        exact ⟨by rw [HR.out]; rfl, HK1.out.drewN _⟩
      · go_wp2_with (go_at_call 61; refine (rwithin_any _ _ _ _).mono ?_; rintro e w' ⟨rfl, rfl⟩; (try simp only [q0, q1, q2, q3]))
        go_ret
        exact ⟨by rw [HR.out]; rfl, HK1.out.drewN _⟩

theorem servF_ok (xs : List Srv) (n : Nat) : servF xs n = eachF (fun i => if okF xs i then 0 else 101) 1 n := by
  unfold servF
  congr 1
  funext i
  exact rows_ok xs i

set_option maxHeartbeats 2000000 in
theorem rservers_any (F : Nat → Prop) (a : Option Addr) (n c : Nat) (xs : List Srv) (w : World) (h : Sv w F a n c xs) :
    Calls Tryz.prog 32 #[.slice a n c] w fun e w' => e = .returned (.tuple #[.int .i64 (fe (findF xs n)), .int .i64 (fn (findF xs n))]) ∧ Kept No w w' := by
  have hn : n ≤ 9223372036854775807 := Nat.le_trans h.cap h.max
  have H : Hid (Sv w F a n c xs) := h
  clear h
  by_cases h32 : n ≤ 32
  · have HF : Hid (findF xs n = eachF (fun i => if okF xs i then 0 else 101) 1 n) := by show findF xs n = _; unfold findF; rw [if_pos h32, servF_ok]
    rw [HF.out]
    obtain ⟨fe0, hfe⟩ : ∃ z, z = fe (eachF (fun i => if okF xs i then 0 else 101) 1 n) := ⟨_, rfl⟩
    obtain ⟨fn0, hfn⟩ : ∃ z, z = fn (eachF (fun i => if okF xs i then 0 else 101) 1 n) := ⟨_, rfl⟩
    rw [← hfe, ← hfn]
    have HFE : Hid (fe0 = fe (eachF (fun i => if okF xs i then 0 else 101) 1 n)) := hfe
    have HFN : Hid (fn0 = fn (eachF (fun i => if okF xs i then 0 else 101) 1 n)) := hfn
    clear hfe hfn HF
    go_enter Tryz.func32, Tryz.ntmps32
    go_wp2
    go_loopw [4] (fun x wr => ∃ k : Nat, k ≤ n ∧ x = .int .i64 k ∧ Kept No w wr ∧ eachF (fun i => if okF xs i then 0 else 101) 1 k = none) (fun x _ => n - (intOf x).toNat)
    case atStart => exact ⟨0, by omega, rfl, Kept.refl No w, rfl⟩
    case round =>
      obtain ⟨k, hk, rfl, hkr, hno⟩ := hrel
      have HNO : Hid (eachF (fun i => if okF xs i then 0 else 101) 1 k = none) := hno
      have HKR : Hid (Kept No w wr) := hkr
      clear hno
      by_cases hlt : k < n
      · have hc := rserver_any F a n c xs k wr (H.out.keep hkr) hlt
        clear hkr
        cases hb : okF xs k
        · have HE : Hid (fe0 = 101 ∧ fn0 = 1 + k) := by
            have := eachF_hit (r := fun i => if okF xs i then 0 else 101) HNO.out (by simp [hb]) n hlt
            have e1 := HFE.out
            have e2 := HFN.out
            rw [this] at e1 e2
            simp only [hb] at e1 e2
            exact ⟨e1, e2⟩
          rw [hb] at hc
          clear hb
          go_wp2_with (go_at_call 47; refine hc.mono ?_; rintro e w' ⟨rfl, hk1⟩; have HK2 : Hid (Kept No w w') := HKR.out.trans hk1 (fun _ h => h.elim); clear hk1)
          go_ret2
          refine ⟨?_, HK2.out⟩
          rw [HE.out.1, HE.out.2, Int.add_comm]
          rfl
        · have HE : Hid (eachF (fun i => if okF xs i then 0 else 101) 1 (k + 1) = none) := eachF_miss (r := fun i => if okF xs i then 0 else 101) HNO.out (by simp [hb])
          rw [hb] at hc
          clear hb
          go_wp2_with (go_at_call 47; refine hc.mono ?_; rintro e w' ⟨rfl, hk1⟩; have HK2 : Hid (Kept No w w') := HKR.out.trans hk1 (fun _ h => h.elim); clear hk1)
          go_roundw
          case rel => exact ⟨k + 1, by omega, by go_num, HK2.out, HE.out⟩
          case measure => simp [intOf]; omega
      · have hke : k = n := by omega
        subst hke
        have HE : Hid (fe0 = 0 ∧ fn0 = 0) := by
          have e1 := HFE.out
          have e2 := HFN.out
          rw [HNO.out] at e1 e2
          exact ⟨e1, e2⟩
        clear hkr
        go_wp2
        go_ret2
        refine ⟨?_, HKR.out⟩
        rw [HE.out.1, HE.out.2]
        rfl
  · have HF : Hid (findF xs n = some (100, 0)) := by show findF xs n = some (100, 0); unfold findF; rw [if_neg h32]
    rw [HF.out]
    show Calls Tryz.prog 32 #[.slice a n c] w fun e w' => e = .returned (.tuple #[.int .i64 100, .int .i64 0]) ∧ Kept No w w'
    have HK : Hid (Kept No w w) := Kept.refl No w
    go_enter Tryz.func32, Tryz.ntmps32
    go_wp2
    go_ret2
    exact ⟨rfl, HK.out⟩
end Go.Proofs.YtibmgpinfdcaoaaGreatDoor

namespace Go.Proofs.YtibmgpinfdcaoaaGreatDoor
open Go.RowKit Plain
set_option linter.unusedVariables false
set_option linter.unusedSimpArgs false
set_option maxRecDepth 100000

set_option maxHeartbeats 4000000 in
theorem rhyper_any (F : Nat → Prop) (a : Option Addr) (n c : Nat) (xs : List Srv) (w : World) (h : Sv w F a n c xs) (hn : n ≤ 70000) :
    Calls Tryz.prog 33 #[.slice a n c] w fun e w' => e = .returned (.tuple #[.int .i64 (lcmV (zP xs) n 1048576), .bool (lcmB (zP xs) n 1048576)]) ∧ Kept No w w' := by
  obtain ⟨i0, hi, hz0, hz1, hz2⟩ := info_parts Tryz.infoL
  have H : Hid (Sv w F a n c xs) := h
  obtain ⟨z1, hz1'⟩ : ∃ z, z = lcmV (zP xs) n 1048576 := ⟨_, rfl⟩
  obtain ⟨z2, hz2'⟩ : ∃ z, z = lcmB (zP xs) n 1048576 := ⟨_, rfl⟩
  rw [← hz1', ← hz2']
  have HZ1 : Hid (z1 = lcmV (zP xs) n 1048576) := hz1'
  have HZ2 : Hid (z2 = lcmB (zP xs) n 1048576) := hz2'
  have hz1b : -9223372036854775808 ≤ z1 ∧ z1 ≤ 9223372036854775807 := by have := lcm_bd xs n; rw [hz1']; omega
  clear h hz1' hz2'
  go_enter Tryz.func33, Tryz.ntmps33
  go_wp2
  go_loopw [4, 5] (fun v x wr => ∃ k : Nat, k ≤ n ∧ x = .int .i64 k ∧ Kept No w wr ∧ wr.ownsRow w.heap.size 2 1 v k ((psP xs k).map iv)) (fun _ x _ => n - (intOf x).toNat)
  case atStart => exact ⟨0, by omega, rfl, Kept.refl No w, ⟨rfl, .inl ⟨rfl, rfl⟩⟩⟩
  case round =>
    obtain ⟨k, hk, rfl, hkr, hown⟩ := hrel
    by_cases hlt : k < n
    · have hx : xs[k]? = some (xs.getD k ⟨0, 0, 0, 0⟩) := by rw [List.getD, List.getElem?_eq_getElem (by rw [H.out.len]; exact hlt)]; rfl
      obtain ⟨hok, b, o, rfl, hb, c0, c1, c2, c3⟩ := (H.out.keep hkr).at' k _ hx
      have HNX : Hid ((psP xs (k + 1)).map iv = (psP xs k).map iv ++ [.int .i64 (xs.getD k ⟨0, 0, 0, 0⟩).p]) := psP_succ xs k
      have hyp : -9223372036854775808 ≤ (xs.getD k ⟨0, 0, 0, 0⟩).p ∧ (xs.getD k ⟨0, 0, 0, 0⟩).p ≤ 9223372036854775807 := hok.1
      clear hx hok
      generalize (psP xs k).map iv = L0 at *
      generalize xs.getD k ⟨0, 0, 0, 0⟩ = y at *
      obtain ⟨yp, yb, yo, yq⟩ := y
      simp only at c0 c1 c2 c3 HNX hyp
      have HOW : Hid (wr.ownsRow w.heap.size 2 1 u4 k L0) := hown
      have HKR : Hid (Kept No w wr) := hkr
      clear hown hkr
      go_wp2_with (at_builtin; refine wpList_append_own_at _ rfl _ _ 52 rfl w.heap.size 2 i0 (.int .i64 0) 1 8 Tryz.underlying52 hi hz0 hz1 hz2 rfl (by decide) _ _ _ rfl (HOW.out.alloc _) ⟨wr.heap.size, 0, none⟩ 1 1 [.int .i64 yp] rfl rfl (cell_one_new _ _ _) (one_one _ _) (by unfold maxLen; omega) (by omega) (by have := HKR.out.size; simp; omega) ?_; intro v1 w6 own1 grow1 _ at1)
      have HK6 : Hid (Kept No w w6 ∧ w6.ownsRow w.heap.size 2 1 v1 (k + 1) ((psP xs (k + 1)).map iv)) := by
        exact ⟨(HKR.out.alloc _).grown grow1 (fun g e => .inr (HOW.out.lt g e).1), by rw [HNX.out]; exact own1⟩
      clear own1 grow1 at1
      go_wp2
      go_roundw
      case rel => exact ⟨k + 1, by omega, by go_num, HK6.out.1, HK6.out.2⟩
      case measure => simp [intOf]; omega
    · have hke : k = n := by omega
      subst hke
      obtain ⟨sa, sc, rfl, hrow⟩ := row_of wr w.heap.size 2 u4 xs k hown (fun i hi => by
        have hx : xs[i]? = some (xs.getD i ⟨0, 0, 0, 0⟩) := by rw [List.getD, List.getElem?_eq_getElem (by rw [H.out.len]; exact hi)]; rfl
        exact (H.out.at' i _ hx).1.1)
      have hc := rlcm_any sa k sc (zP xs) 1048576 wr (by omega) (by unfold I64; omega) hrow
      have HKR : Hid (Kept No w wr) := hkr
      clear hown hkr hrow
      rw [← HZ1.out, ← HZ2.out] at hc
      go_wp2_with (go_at_call 48; refine hc.mono ?_; rintro e w2 ⟨rfl, nn, rfl⟩)
      go_ret2
      exact ⟨rfl, HKR.out.drewN _⟩

theorem fe_of {xs : List Srv} {n : Nat} {p : Int × Int} (h : findF xs n = some p) : p.1 = 100 ∨ p.1 = 101 := by
  unfold findF at h
  by_cases h32 : n ≤ 32
  · rw [if_pos h32, servF_ok] at h
    have key : ∀ m, eachF (fun i => if okF xs i then 0 else 101) 1 m = some p → p.1 = 101 := by
      intro m
      induction m with
      | zero => intro h; cases h
      | succ m ih =>
        intro h
        rw [eachF] at h
        cases he : eachF (fun i => if okF xs i then 0 else 101) 1 m with
        | some q => rw [he] at h; cases h; exact ih he
        | none =>
          rw [he] at h
          cases ho : okF xs m
          · simp [ho] at h; rw [← h]
          · simp [ho] at h
    exact .inr (key n h)
  · rw [if_neg h32] at h; cases h; exact .inl rfl

set_option maxHeartbeats 4000000 in
theorem rHyper_any (F : Nat → Prop) (a : Option Addr) (n c : Nat) (xs : List Srv) (w : World) (h : Sv w F a n c xs) :
    Calls Tryz.prog 20 #[.slice a n c] w fun e w' => e = .returned (.tuple #[.int .i64 (hyV xs n), .int .i64 (hyE xs n)]) ∧ Kept No w w' := by
  have hc := rservers_any F a n c xs w h
  cases hf : findF xs n with
  | some p =>
    have ht : timF xs n = some p := by unfold timF; rw [hf]
    rw [show hyV xs n = 0 by unfold hyV; rw [ht], show hyE xs n = p.1 by unfold hyE; rw [ht]]
    have hp := fe_of hf
    rw [hf] at hc
    simp only [fe, fn] at hc
    obtain ⟨px, py⟩ := p
    simp only at hp hc ⊢
    have hne : ¬ px = 0 := by omega
    clear hf h ht hp
    go_enter Tryz.func20, Tryz.ntmps20
    go_wp2_with (go_at_call 32; refine hc.mono ?_; rintro e w1 ⟨rfl, hk1⟩; have HK1 : Hid (Kept No w w1) := hk1; clear hk1)
    go_ret2
    exact ⟨rfl, HK1.out⟩
  | none =>
    obtain ⟨hn, hp⟩ := findF_none hf
    have ht : timF xs n = togF xs n := by unfold timF; rw [hf]
    rw [hf] at hc
    simp only [fe, fn] at hc
    have H : Hid (Sv w F a n c xs) := h
    have HP : Hid (∀ i, i < n → 1 ≤ zP xs i) := fun i hi => (hp i hi).1
    have H2 : Hid (∀ w', Kept No w w' → Calls Tryz.prog 33 #[.slice a n c] w' fun e w' => e = .returned (.tuple #[.int .i64 (lcmV (zP xs) n 1048576), .bool (lcmB (zP xs) n 1048576)]) ∧ Kept No w w') := fun w' hw => (rhyper_any F a n c xs w' (h.keep hw) (by omega)).mono (fun e w2 he => ⟨he.1, hw.trans he.2 (fun _ h => h.elim)⟩)
    cases hB : lcmB (zP xs) n 1048576
    · have ht2 : timF xs n = some (102, 0) := by rw [ht]; unfold togF; rw [hB]; rfl
      rw [show hyV xs n = 0 by unfold hyV; rw [ht2], show hyE xs n = 102 by unfold hyE; rw [ht2]]
      rw [hB] at H2
      clear hf h ht ht2 hp hB
      generalize lcmV (zP xs) n 1048576 = z1 at *
      go_enter Tryz.func20, Tryz.ntmps20
      go_wp2_with (first
        | (go_at_call 32; refine hc.mono ?_; rintro e w1 ⟨rfl, hk1⟩; have HK1 : Hid (Kept No w w1) := hk1; have hc2 := H2.out w1 hk1; clear hk1)
        | (go_at_call 33; refine hc2.mono ?_; rintro e w2 ⟨rfl, hk1⟩; have HK2 : Hid (Kept No w w2) := hk1; clear hk1))
      go_ret2
      exact ⟨rfl, HK2.out⟩
    · obtain ⟨l0, l1⟩ := lcm_bd xs n
      rw [hB] at H2
      have HV : Hid (relF (lcmV (zP xs) n 1048576) xs n ≤ 65536 → hyV xs n = lcmV (zP xs) n 1048576 ∧ hyE xs n = 0) := fun hle => by
        have ht2 : timF xs n = none := by rw [ht]; unfold togF; rw [hB, if_pos hle]; rfl
        exact ⟨by unfold hyV; rw [ht2], by unfold hyE; rw [ht2]⟩
      have HV2 : Hid (¬ relF (lcmV (zP xs) n 1048576) xs n ≤ 65536 → hyV xs n = 0 ∧ hyE xs n = 103) := fun hle => by
        have ht2 : timF xs n = some (103, 0) := by rw [ht]; unfold togF; rw [hB, if_neg hle]; rfl
        exact ⟨by unfold hyV; rw [ht2], by unfold hyE; rw [ht2]⟩
      clear hf h ht hp hB
      generalize lcmV (zP xs) n 1048576 = z1 at *
      generalize hyV xs n = r1 at *
      generalize hyE xs n = r2 at *
      have HBD : Hid (∀ k, k ≤ n → 0 ≤ relF z1 xs k ∧ relF z1 xs k ≤ k * 2097152) := fun k hk => relF_bd (xs := xs) l0 l1 k (fun i hi => HP.out i (by omega))
      go_enter Tryz.func20, Tryz.ntmps20
      go_wp2_with (first
        | (go_at_call 32; refine hc.mono ?_; rintro e w1 ⟨rfl, hk1⟩; have HK1 : Hid (Kept No w w1) := hk1; have hc2 := H2.out w1 hk1; clear hk1)
        | (go_at_call 33; refine hc2.mono ?_; rintro e w2 ⟨rfl, hk1⟩; have HK2 : Hid (Kept No w w2) := hk1; clear hk1))
      clear hc hc2 H2 HK1
      go_loopw [8, 9] (fun v x wr => ∃ k : Nat, k ≤ n ∧ x = .int .i64 k ∧ Kept No w wr ∧ v = .int .i64 (relF z1 xs k)) (fun _ x _ => n - (intOf x).toNat)
      case atStart => exact ⟨0, by omega, rfl, HK2.out, rfl⟩
      case round =>
        clear HK2
        obtain ⟨k, hk, rfl, hkr, rfl⟩ := hrel
        by_cases hlt : k < n
        · have hx : xs[k]? = some (xs.getD k ⟨0, 0, 0, 0⟩) := by rw [List.getD, List.getElem?_eq_getElem (by rw [H.out.len]; exact hlt)]; rfl
          obtain ⟨hok, b, o, rfl, hb, c0, c1, c2, c3⟩ := (H.out.keep hkr).at' k _ hx
          have hpk : 1 ≤ (xs.getD k ⟨0, 0, 0, 0⟩).p := HP.out k hlt
          have HS : Hid (relF z1 xs (k + 1) = relF z1 xs k + (2 * z1) / (xs.getD k ⟨0, 0, 0, 0⟩).p) := rfl
          have hpm : (xs.getD k ⟨0, 0, 0, 0⟩).p ≤ 9223372036854775807 := hok.1.2
          obtain ⟨r0, r1⟩ := HBD.out k hk
          have r2 : relF z1 xs k ≤ 67108864 := by
            have : (k : Int) * 2097152 ≤ 67108864 := by omega
            omega
          have HKR : Hid (Kept No w wr) := hkr
          clear hx hok hkr r1
          generalize xs.getD k ⟨0, 0, 0, 0⟩ = y at *
          obtain ⟨yp, yb, yo, yq⟩ := y
          simp only at c0 c1 c2 c3 HS hpk hpm
          generalize relF z1 xs k = rk at *
          have hd0 : 0 ≤ (2 * z1) / yp := Int.ediv_nonneg (by omega) (by omega)
          have hd1 : (2 * z1) / yp ≤ 2 * z1 := Int.ediv_le_self _ (by omega)
          go_wp2
          go_roundw
          case rel => exact ⟨k + 1, by omega, by go_num, HKR.out, by rw [HS.out]⟩
          case measure => simp [intOf]; omega
        · have hke : k = n := by omega
          subst hke
          have HKR : Hid (Kept No w wr) := hkr
          clear hkr
          by_cases hle : relF z1 xs k ≤ 65536
          · obtain ⟨e1, e2⟩ := HV.out hle
            have HE : Hid (r1 = z1 ∧ r2 = 0) := ⟨e1, e2⟩
            clear e1 e2
            generalize relF z1 xs k = rk at *
            go_wp2
            go_ret2
            exact ⟨by rw [HE.out.1, HE.out.2]; rfl, HKR.out⟩
          · obtain ⟨e1, e2⟩ := HV2.out (by omega)
            have HE : Hid (r1 = 0 ∧ r2 = 103) := ⟨e1, e2⟩
            clear e1 e2
            generalize relF z1 xs k = rk at *
            go_wp2
            go_ret2
            exact ⟨by rw [HE.out.1, HE.out.2]; rfl, HKR.out⟩
end Go.Proofs.YtibmgpinfdcaoaaGreatDoor
