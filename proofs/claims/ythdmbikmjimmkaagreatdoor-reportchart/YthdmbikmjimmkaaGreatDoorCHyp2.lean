/-
  'releases', 'findTiming', 'Hyper'.
-/
import Derived.Test.YthdmbikmjimmkaaGreatDoorCHyp
namespace Go.Proofs.YthdmbikmjimmkaaGreatDoor
open Go.RowKit Plain
set_option linter.unusedVariables false
set_option maxRecDepth 100000

set_option maxHeartbeats 4000000 in
theorem releases_any (F : Nat → Prop) (a : Option Addr) (n c : Nat) (xs : List Srv) (w : World) (h : Sv w F a n c xs) (hn : n ≤ 32) (hp : ∀ i, i < n → 1 ≤ zP xs i) :
    Calls Tryz.prog 43 #[.slice a n c] w fun e w' => e = .returned (.int .i64 (relF (lcmV (zP xs) n 1048576) xs n)) ∧ Kept No w w' := by
  have hc := multiple_any F a n c xs w h (by omega)
  have H : Hid (Sv w F a n c xs) := h
  have HP : Hid (∀ i, i < n → 1 ≤ zP xs i) := hp
  obtain ⟨l0, l1⟩ := lcm_bd xs n
  clear h hp
  generalize lcmV (zP xs) n 1048576 = z1 at *
  generalize lcmB (zP xs) n 1048576 = z2 at *
  have HBD : Hid (∀ k, k ≤ n → 0 ≤ relF z1 xs k ∧ relF z1 xs k ≤ k * 2097152) := fun k hk => relF_bd (xs := xs) l0 l1 k (fun i hi => HP.out i (by omega))

  go_enter Tryz.func43, Tryz.ntmps43
  go_wp2_with (go_at_call 11; refine hc.mono ?_; rintro e w1 ⟨rfl, hk1⟩; have HK1 : Hid (Kept No w w1) := hk1; clear hk1)
  clear hc
  go_loopw [5, 15] (fun v x wr => ∃ k : Nat, k ≤ n ∧ x = .int .i64 k ∧ Kept No w wr ∧ v = .int .i64 (relF z1 xs k)) (fun _ x _ => n - (intOf x).toNat)
  case atStart => exact ⟨0, by omega, rfl, HK1.out, rfl⟩
  case round =>
    clear HK1
    obtain ⟨k, hk, rfl, hkr, rfl⟩ := hrel
    by_cases hlt : k < n
    · have hx : xs[k]? = some (xs.getD k ⟨0, 0, 0, 0⟩) := by rw [List.getD, List.getElem?_eq_getElem (by rw [H.out.len]; exact hlt)]; rfl
      obtain ⟨hok, b, o, rfl, hb, c0, c1, c2, c3⟩ := (H.out.keep hkr).at' k _ hx
      have hpk : 1 ≤ (xs.getD k ⟨0, 0, 0, 0⟩).p := HP.out k hlt
      have HS : Hid (relF z1 xs (k + 1) = relF z1 xs k + (2 * z1) / (xs.getD k ⟨0, 0, 0, 0⟩).p) := rfl
      have hpm : (xs.getD k ⟨0, 0, 0, 0⟩).p ≤ 9223372036854775807 := hok.1.2
      obtain ⟨r0, r1⟩ := HBD.out k hk
      have r2 : relF z1 xs k ≤ 67108864 := by
        have : (k : Int) * 2097152 ≤ 67108864 := by omega
        omega
      have HKR : Hid (Kept No w wr) := hkr
      clear hx hok hkr r1
      generalize xs.getD k ⟨0, 0, 0, 0⟩ = y at *
      obtain ⟨yp, yb, yo, yq⟩ := y
      simp only at c0 c1 c2 c3 HS hpk hpm
      generalize relF z1 xs k = rk at *
      have hd0 : 0 ≤ (2 * z1) / yp := Int.ediv_nonneg (by omega) (by omega)
      have hd1 : (2 * z1) / yp ≤ 2 * z1 := Int.ediv_le_self _ (by omega)
      go_wp2
      go_roundw
      case rel => exact ⟨k + 1, by omega, by go_num, HKR.out.alloc _, by rw [HS.out]⟩
      case measure => simp [intOf]; omega
    · have hke : k = n := by omega
      subst hke
      have HKR : Hid (Kept No w wr) := hkr
      clear hkr
      go_wp2
      go_ret
      exact ⟨rfl, HKR.out⟩

theorem hasHyper_any (F : Nat → Prop) (a : Option Addr) (n c : Nat) (xs : List Srv) (w : World) (h : Sv w F a n c xs) (hn : n ≤ 70000) :
    Calls Tryz.prog 41 #[.slice a n c] w fun e w' => e = .returned (.bool (lcmB (zP xs) n 1048576)) ∧ Kept No w w' := by
  have hc := multiple_any F a n c xs w h hn
  clear h
  generalize lcmV (zP xs) n 1048576 = z1 at *
  generalize lcmB (zP xs) n 1048576 = z2 at *
  go_enter Tryz.func41, Tryz.ntmps41
  go_wp2_with (go_at_call 11; refine hc.mono ?_; rintro e w1 ⟨rfl, hk1⟩; have HK1 : Hid (Kept No w w1) := hk1; clear hk1)
  go_ret
  exact ⟨rfl, HK1.out⟩

theorem trow2 (F : Nat → Prop) (a : Option Addr) (n c : Nat) (xs : List Srv) (w : World) (h : Sv w F a n c xs) (hn : n ≤ 32) (hp : ∀ i, i < n → 1 ≤ zP xs i) :
    Calls Tryz.prog 42 #[.slice a n c] w fun e w' => e = .returned (.bool (decide (relF (lcmV (zP xs) n 1048576) xs n ≤ 65536))) ∧ Kept No w w' := by
  have hc := releases_any F a n c xs w h hn hp
  clear h hp
  generalize relF (lcmV (zP xs) n 1048576) xs n = z1 at *
  go_enter Tryz.func42, Tryz.ntmps42
  go_wp2_with (go_at_call 43; refine hc.mono ?_; rintro e w1 ⟨rfl, hk1⟩; have HK1 : Hid (Kept No w w1) := hk1; clear hk1)
  go_ret
  exact ⟨rfl, HK1.out⟩

def rsT : Nat → Rw
  | 0 => ⟨102, .func (.func 41) #[] #[], .nilFunc, .nilFunc, rfl, rfl, rfl⟩
  | _ => ⟨103, .func (.func 42) #[] #[], .nilFunc, .nilFunc, rfl, rfl, rfl⟩
theorem table2 (w : World) : Calls Tryz.prog 25 #[] w fun e w' => ∃ tb, e = .returned (.slice (some ⟨tb, 0, none⟩) 2 2) ∧ Tb w' tb 2 rsT ∧ Kept No w w' := by
  have HK : Hid (∀ o, Kept No w (w.alloc o)) := fun o => (Kept.refl No w).alloc o
  go_enter Tryz.func25, Tryz.ntmps25
  go_wp2
  go_ret
  refine ⟨_, rfl, ?_, HK.out _⟩
  intro j hj
  match j, hj with
  | 0, _ => exact ⟨by simp [rsT], by simp [rsT], by simp [rsT], by simp [rsT]⟩
  | 1, _ => exact ⟨by simp [rsT], by simp [rsT], by simp [rsT], by simp [rsT]⟩

/-- of servers that may be one by one: all of them together -/
def togF (xs : List Srv) (n : Nat) : Option (Int × Int) :=
  if lcmB (zP xs) n 1048576 then (if relF (lcmV (zP xs) n 1048576) xs n ≤ 65536 then none else some (103, 0)) else some (102, 0)
def timF (xs : List Srv) (n : Nat) : Option (Int × Int) := match findF xs n with
  | some p => some p
  | none => togF xs n

theorem tog_any (F : Nat → Prop) (a : Option Addr) (n c : Nat) (xs : List Srv) (tb : Nat) (w : World) (h : Sv w F a n c xs) (hf : findF xs n = none) (hT : Tb w tb 2 rsT) :
    Calls Tryz.prog 24 #[.slice a n c, .slice (some ⟨tb, 0, none⟩) 2 2] w fun e w' => e = .returned (fv (togF xs n)) ∧ Kept No w w' := by
  obtain ⟨hn, hp⟩ := findF_none hf
  have := whole_any a n c tb 2 rsT (fun j => match j with | 0 => if lcmB (zP xs) n 1048576 then 0 else 102 | _ => if decide (relF (lcmV (zP xs) n 1048576) xs n ≤ 65536) then 0 else 103) w (by omega) hT (fun j w2 aa hj hw2 => by
    match j, hj with
    | 0, _ => exact findsSl_alone 102 _ #[] a n c aa 0 1 w2 (enters_of Tryz.func41 (by kernel_rfl) rfl) _ (fun w3 hw3 => hasHyper_any F a n c xs w3 ((h.keep hw2).keep hw3) (by omega))
    | 1, _ => exact findsSl_alone 103 _ #[] a n c aa 0 1 w2 (enters_of Tryz.func42 (by kernel_rfl) rfl) _ (fun w3 hw3 => trow2 F a n c xs w3 ((h.keep hw2).keep hw3) hn (fun i hi => (hp i hi).1)))
  have e : (if rowsF (fun j => match j with | 0 => if lcmB (zP xs) n 1048576 then 0 else 102 | _ => if decide (relF (lcmV (zP xs) n 1048576) xs n ≤ 65536) then 0 else 103) 2 = 0 then none else some (rowsF (fun j => match j with | 0 => if lcmB (zP xs) n 1048576 then 0 else 102 | _ => if decide (relF (lcmV (zP xs) n 1048576) xs n ≤ 65536) then 0 else 103) 2, (0 : Int))) = togF xs n := by
    unfold togF
    by_cases h1 : lcmB (zP xs) n 1048576 = true <;> by_cases h2 : relF (lcmV (zP xs) n 1048576) xs n ≤ 65536 <;> simp [rowsF, h1, h2]
  rw [e] at this
  exact this

theorem fv_some (p : Int × Int) : fv (some p) = Value.iface 71 (.agg #[.int .i64 p.1, .int .i64 p.2]) := rfl

set_option maxHeartbeats 2000000 in
theorem findTiming_any (F : Nat → Prop) (a : Option Addr) (n c : Nat) (xs : List Srv) (w : World) (h : Sv w F a n c xs) :
    Calls Tryz.prog 9 #[.slice a n c] w fun e w' => e = .returned (fv (timF xs n)) ∧ Kept No w w' := by
  have hc := findServer_any F a n c xs w h
  cases hf : findF xs n with
  | some p =>
    have HF : Hid (timF xs n = some p) := by show timF xs n = some p; unfold timF; rw [hf]
    rw [HF.out, fv_some]
    rw [hf, fv_some] at hc
    clear hf h
    go_enter Tryz.func9, Tryz.ntmps9
    go_wp2_with (go_at_call 23; refine hc.mono ?_; rintro e w1 ⟨rfl, hk1⟩; have HK1 : Hid (Kept No w w1) := hk1; clear hk1)
    go_ret
    exact ⟨rfl, HK1.out⟩
  | none =>
    have HF : Hid (timF xs n = togF xs n) := by show timF xs n = togF xs n; unfold timF; rw [hf]
    have H2 : Hid (∀ w', Kept No w w' → ∀ tb, Tb w' tb 2 rsT → Calls Tryz.prog 24 #[.slice a n c, .slice (some ⟨tb, 0, none⟩) 2 2] w' fun e w'' => e = .returned (fv (togF xs n)) ∧ Kept No w' w'') := fun w' hw tb hT => tog_any F a n c xs tb w' (h.keep hw) hf hT
    rw [HF.out]
    rw [hf, show fv none = Value.nilIface from rfl] at hc
    clear hf h
    generalize togF xs n = z at *
    go_enter Tryz.func9, Tryz.ntmps9
    go_wp2_with (first
      | (go_at_call 23; refine hc.mono ?_; rintro e w1 ⟨rfl, hk1⟩; have HK1 : Hid (Kept No w w1) := hk1; clear hk1)
      | (go_at_call 25; refine (table2 _).mono ?_; rintro e w3 ⟨tb3, rfl, hT, hk1⟩; have HK3 : Hid (Kept No w w3) := HK1.out.trans hk1 (fun _ h => h.elim); have hc3 := H2.out w3 HK3.out tb3 hT; clear hT hk1)
      | (go_at_call 24; refine hc3.mono ?_; rintro e w4 ⟨rfl, hk2⟩; have HK4 : Hid (Kept No w w4) := HK3.out.trans hk2 (fun _ h => h.elim); clear hk2 hc3))
    go_ret
    exact ⟨rfl, HK4.out⟩

def hyV (xs : List Srv) (n : Nat) : Int := match timF xs n with
  | some _ => 0
  | none => lcmV (zP xs) n 1048576
def hyE (xs : List Srv) (n : Nat) : Int := match timF xs n with
  | some p => p.1
  | none => 0

theorem tim_none {xs : List Srv} {n : Nat} (h : timF xs n = none) : findF xs n = none := by
  unfold timF at h
  cases hf : findF xs n with
  | none => rfl
  | some p => rw [hf] at h; cases h

set_option maxHeartbeats 2000000 in
theorem hyper_any (F : Nat → Prop) (a : Option Addr) (n c : Nat) (xs : List Srv) (w : World) (hg : Gl w) (h : Sv w F a n c xs) :
    Calls Tryz.prog 4 #[.slice a n c] w fun e w' => e = .returned (.tuple #[.int .i64 (hyV xs n), .int .i64 (hyE xs n)]) ∧ Kept No w w' := by
  have hc := findTiming_any F a n c xs w h
  cases hf : timF xs n with
  | some p =>
    obtain ⟨px, py⟩ := p
    rw [show hyV xs n = 0 by unfold hyV; rw [hf], show hyE xs n = px by unfold hyE; rw [hf]]
    have H2 : Hid (∀ w', Kept No w w' → Calls Tryz.prog 10 #[.iface 71 (.agg #[.int .i64 px, .int .i64 py])] w' fun e w'' => e = .returned (.tuple #[.int .i64 px, .int .i64 py]) ∧ Kept No w' w'') := fun w' hw => told_any (some (px, py)) w' (hg.kept hw)
    rw [hf, fv_some] at hc
    clear hf h hg
    go_enter Tryz.func4, Tryz.ntmps4
    go_wp2_with (first
      | (go_at_call 9; refine hc.mono ?_; rintro e w1 ⟨rfl, hk1⟩; have HK1 : Hid (Kept No w w1) := hk1; have hc2 := H2.out w1 hk1; clear hk1)
      | (go_at_call 10; refine hc2.mono ?_; rintro e w2 ⟨rfl, hk1⟩; have HK2 : Hid (Kept No w w2) := HK1.out.trans hk1 (fun _ h => h.elim); clear hk1))
    go_ret2
    exact ⟨rfl, HK2.out⟩
  | none =>
    have hn := (findF_none (tim_none hf)).1
    rw [show hyV xs n = lcmV (zP xs) n 1048576 by unfold hyV; rw [hf], show hyE xs n = 0 by unfold hyE; rw [hf]]
    have H2 : Hid (∀ w', Kept No w w' → Calls Tryz.prog 11 #[.slice a n c] w' fun e w' => e = .returned (.tuple #[.int .i64 (lcmV (zP xs) n 1048576), .bool (lcmB (zP xs) n 1048576)]) ∧ Kept No w w') := fun w' hw => (multiple_any F a n c xs w' (h.keep hw) (by omega)).mono (fun e w2 he => ⟨he.1, hw.trans he.2 (fun _ h => h.elim)⟩)
    rw [hf, show fv none = Value.nilIface from rfl] at hc
    clear hf h hg
    generalize lcmV (zP xs) n 1048576 = z1 at *
    generalize lcmB (zP xs) n 1048576 = z2 at *
    go_enter Tryz.func4, Tryz.ntmps4
    go_wp2_with (first
      | (go_at_call 9; refine hc.mono ?_; rintro e w1 ⟨rfl, hk1⟩; have HK1 : Hid (Kept No w w1) := hk1; have hc2 := H2.out w1 hk1; clear hk1)
      | (go_at_call 11; refine hc2.mono ?_; rintro e w2 ⟨rfl, hk1⟩; have HK2 : Hid (Kept No w w2) := hk1; clear hk1))
    go_ret2
    exact ⟨rfl, HK2.out⟩
end Go.Proofs.YthdmbikmjimmkaaGreatDoor
