/-
  One text: CHyp, CHyp2, OSrvs.
-/
import Derived.Test.YtfjaajjljmbmbaaGreatDoorGR
import Derived.Test.YtfjaajjljmbmbaaGreatDoorGN
namespace Go.Proofs.YtfjaajjljmbmbaaGreatDoor.Ck
open Go.RowKit Plain
set_option linter.unusedVariables false
set_option maxRecDepth 100000

def iv (x : Int) : Value := .int .i64 x
def zP (xs : List Srv) (i : Nat) : Int := (xs.getD i ⟨0, 0, 0, 0⟩).p
def psP (xs : List Srv) (k : Nat) : List Int := (List.range k).map (zP xs)
theorem psP_len (xs : List Srv) (k : Nat) : (psP xs k).length = k := by simp [psP]
theorem psP_succ (xs : List Srv) (k : Nat) : (psP xs (k + 1)).map iv = (psP xs k).map iv ++ [.int .i64 (zP xs k)] := by simp [psP, List.range_succ, iv]
theorem psP_get (xs : List Srv) (k i : Nat) (h : i < k) : ((psP xs k).map iv)[i]? = some (.int .i64 (zP xs i)) := by simp [psP, h, iv]
theorem Tryz.infoI : (Tryz.prog.info? 3).map (fun i => (i.zero, i.size, i.bytes)) = some (some (.int .i64 0), 1, 8) := by kernel_rfl
theorem Tryz.infoL : (Tryz.prog.info? 2).map (fun i => (i.zero, i.size, i.bytes)) = some (some (.int .i64 0), 1, 8) := by kernel_rfl
theorem info_parts {P : Program} {t : TypeId} {z : Option Value} {s b : Nat} (h : (P.info? t).map (fun i => (i.zero, i.size, i.bytes)) = some (z, s, b)) : ∃ i, P.info? t = some i ∧ i.zero = z ∧ i.size = s ∧ i.bytes = b := by
  cases hi : P.info? t with
  | none => rw [hi] at h; cases h
  | some i => rw [hi] at h; simp only [Option.map_some, Option.some.injEq, Prod.mk.injEq] at h; exact ⟨i, rfl, h.1, h.2.1, h.2.2⟩
theorem cell_one_new (w : World) (v : Value) (t : TypeId) : ∀ j u, [v][j]? = some u → (w.alloc (.cells #[v] t)).cell? (Addr.add ⟨w.heap.size, 0, none⟩ j) = some u := by
  intro j u hj
  match j, hj with
  | 0, hj => simp at hj; subst hj; simp [Addr.add]
  | j + 1, hj => simp at hj

theorem cell_one_at (w : World) (v : Value) (t : TypeId) (g : Nat) (hg : g = w.heap.size) : ∀ j u, [v][j]? = some u → (w.alloc (.cells #[v] t)).cell? (Addr.add ⟨g, 0, none⟩ j) = some u := by
  subst hg; exact cell_one_new w v t

theorem row_of (w : World) (B : Nat) (t : TypeId) (v : Value) (xs : List Srv) (n : Nat) (h : w.ownsRow B t 1 v n ((psP xs n).map iv)) (hok : ∀ i, i < n → I64 (zP xs i)) : ∃ a c, v = .slice a n c ∧ Row w a n (zP xs) := by
  rcases owns_cells h with ⟨rfl, h0⟩ | ⟨g, cap, rfl, hb, hg, hn, hm, hc, hf⟩
  · exact ⟨none, 0, by rw [h0], fun i hi => by omega⟩
  · exact ⟨_, cap, rfl, fun i hi => ⟨g, 0, rfl, by rw [Nat.zero_add]; exact hc i _ (psP_get xs n i hi), hok i hi⟩⟩

set_option maxHeartbeats 4000000 in
theorem multiple_any (F : Nat → Prop) (a : Option Addr) (n c : Nat) (xs : List Srv) (w : World) (h : Sv w F a n c xs) (hn : n ≤ 70000) :
    Calls Tryz.prog 170 #[.slice a n c] w fun e w' => e = .returned (.tuple #[.int .i64 (lcmV (zP xs) n 1048576), .bool (lcmB (zP xs) n 1048576)]) ∧ Kept No w w' := by
  obtain ⟨i0, hi, hz0, hz1, hz2⟩ := info_parts Tryz.infoI
  have H : Hid (Sv w F a n c xs) := h
  obtain ⟨z1, hz1'⟩ : ∃ z, z = lcmV (zP xs) n 1048576 := ⟨_, rfl⟩
  obtain ⟨z2, hz2'⟩ : ∃ z, z = lcmB (zP xs) n 1048576 := ⟨_, rfl⟩
  rw [← hz1', ← hz2']
  have HZ1 : Hid (z1 = lcmV (zP xs) n 1048576) := hz1'
  have HZ2 : Hid (z2 = lcmB (zP xs) n 1048576) := hz2'
  clear h hz1' hz2'
  go_enter Tryz.func170, Tryz.ntmps170
  go_wp2
  go_loopw [4, 9] (fun v x wr => ∃ k : Nat, k ≤ n ∧ x = .int .i64 k ∧ Kept No w wr ∧ wr.ownsRow w.heap.size 3 1 v k ((psP xs k).map iv)) (fun _ x _ => n - (intOf x).toNat)
  case atStart => exact ⟨0, by omega, rfl, Kept.refl No w, ⟨rfl, .inl ⟨rfl, rfl⟩⟩⟩
  case round =>
    obtain ⟨k, hk, rfl, hkr, hown⟩ := hrel
    by_cases hlt : k < n
    · have hx : xs[k]? = some (xs.getD k ⟨0, 0, 0, 0⟩) := by rw [List.getD, List.getElem?_eq_getElem (by rw [H.out.len]; exact hlt)]; rfl
      obtain ⟨hok, b, o, rfl, hb, c0, c1, c2, c3⟩ := (H.out.keep hkr).at' k _ hx
      have HNX : Hid ((psP xs (k + 1)).map iv = (psP xs k).map iv ++ [.int .i64 (xs.getD k ⟨0, 0, 0, 0⟩).p]) := psP_succ xs k
      have HL : Hid (((psP xs k).map iv).length = k) := by show ((psP xs k).map iv).length = k; rw [List.length_map, psP_len]
      clear hx hok
      generalize (psP xs k).map iv = L0 at *
      generalize xs.getD k ⟨0, 0, 0, 0⟩ = y at *
      obtain ⟨yp, yb, yo, yq⟩ := y
      simp only at c0 c1 c2 c3 HNX
      have HOW : Hid (wr.ownsRow w.heap.size 3 1 u4 k L0) := hown
      have HKR : Hid (Kept No w wr) := hkr
      clear hown hkr
      go_wp2_with (at_builtin; refine wpList_append_own_at _ rfl _ _ 28 rfl w.heap.size 3 i0 (.int .i64 0) 1 8 Tryz.underlying28 hi hz0 hz1 hz2 rfl (by decide) _ _ _ rfl ((HOW.out.alloc _).alloc _) ⟨wr.heap.size + 1, 0, none⟩ 1 1 [.int .i64 yp] rfl rfl (cell_one_at _ _ _ _ (by simp)) (one_one _ _) (by unfold maxLen; omega) (by omega) (by have := HKR.out.size; simp; omega) ?_; intro v1 w6 own1 grow1 _ at1)
      have HK6 : Hid (Kept No w w6 ∧ w6.ownsRow w.heap.size 3 1 v1 (k + 1) ((psP xs (k + 1)).map iv)) := by
        exact ⟨((HKR.out.alloc _).alloc _).grown grow1 (fun g e => .inr (HOW.out.lt g e).1), by rw [HNX.out]; exact own1⟩
      clear own1 grow1 at1
      go_wp2
      go_roundw
      case rel => exact ⟨k + 1, by omega, by go_num, HK6.out.1, HK6.out.2⟩
      case measure => simp [intOf]; omega
    · have hke : k = n := by omega
      subst hke
      obtain ⟨sa, sc, rfl, hrow⟩ := row_of wr w.heap.size 3 u4 xs k hown (fun i hi => by
        have hx : xs[i]? = some (xs.getD i ⟨0, 0, 0, 0⟩) := by rw [List.getD, List.getElem?_eq_getElem (by rw [H.out.len]; exact hi)]; rfl
        exact (H.out.at' i _ hx).1.1)
      have hc := lcmInt_any sa k sc (zP xs) 1048576 wr (by omega) (by unfold I64; omega) hrow
      have HKR : Hid (Kept No w wr) := hkr
      clear hown hkr hrow
      rw [← HZ1.out, ← HZ2.out] at hc
      go_wp2_with (go_at_call 175; refine hc.mono ?_; rintro e w2 ⟨rfl, nn, rfl⟩)
      go_ret2
      exact ⟨rfl, HKR.out.drewN _⟩
theorem eachF_none {r : Nat → Int} {first : Int} : ∀ {n : Nat}, eachF r first n = none → ∀ i, i < n → r i = 0
  | 0, _, i, hi => by omega
  | n + 1, h, i, hi => by
    rw [eachF] at h
    cases he : eachF r first n with
    | some p => rw [he] at h; cases h
    | none =>
      rw [he] at h
      rcases Nat.lt_or_eq_of_le (Nat.lt_succ_iff.1 hi) with h1 | h1
      · exact eachF_none he i h1
      · subst h1
        apply Decidable.byContradiction
        intro hn
        simp [hn] at h
theorem rowsF_zero {e : Nat → Int} : ∀ {m : Nat}, rowsF e m = 0 → ∀ j, j < m → e j = 0
  | 0, _, j, hj => by omega
  | m + 1, h, j, hj => by
    rw [rowsF] at h
    by_cases he : rowsF e m = 0
    · rw [if_pos he] at h
      rcases Nat.lt_or_eq_of_le (Nat.lt_succ_iff.1 hj) with h1 | h1
      · exact rowsF_zero he j h1
      · subst h1; exact h
    · rw [if_neg he] at h; exact absurd h he
theorem findF_none {xs : List Srv} {n : Nat} (h : findF xs n = none) : n ≤ 32 ∧ ∀ i, i < n → 1 ≤ zP xs i ∧ zP xs i ≤ 1048576 := by
  unfold findF at h
  by_cases h32 : n ≤ 32
  · rw [if_pos h32] at h
    refine ⟨h32, fun i hi => ?_⟩
    have := rowsF_zero (eachF_none h i hi) 0 (by omega)
    simp only [bS] at this
    by_cases hb : inB (xs.getD i ⟨0, 0, 0, 0⟩).p 1 1048576 = true
    · simp [inB] at hb; exact hb
    · rw [if_neg hb] at this; omega
  · rw [if_neg h32] at h; cases h

def relF (h : Int) (xs : List Srv) : Nat → Int
  | 0 => 0
  | k + 1 => relF h xs k + (2 * h) / zP xs k
theorem relF_bd {h : Int} {xs : List Srv} (h0 : 0 ≤ h) (h1 : h ≤ 1048576) : ∀ k, (∀ i, i < k → 1 ≤ zP xs i) → 0 ≤ relF h xs k ∧ relF h xs k ≤ k * 2097152
  | 0, _ => by simp [relF]
  | k + 1, hp => by
    have ih := relF_bd h0 h1 k (fun i hi => hp i (by omega))
    have hk := hp k (by omega)
    have d0 : 0 ≤ (2 * h) / zP xs k := Int.ediv_nonneg (by omega) (by omega)
    have d1 : (2 * h) / zP xs k ≤ 2 * h := Int.ediv_le_self _ (by omega)
    rw [relF]
    constructor
    · omega
    · push_cast; omega
theorem lcm_bd (xs : List Srv) (n : Nat) : 0 ≤ lcmV (zP xs) n 1048576 ∧ lcmV (zP xs) n 1048576 ≤ 1048576 := by
  obtain ⟨h0, h1, _⟩ := lcmV_facts (zP xs) n 1048576
  refine ⟨h0, ?_⟩
  by_cases h : 0 < lcmV (zP xs) n 1048576
  · exact (h1 h).1
  · omega

end Go.Proofs.YtfjaajjljmbmbaaGreatDoor.Ck

namespace Go.Proofs.YtfjaajjljmbmbaaGreatDoor.Ck
open Go.RowKit Plain
set_option linter.unusedVariables false
set_option maxRecDepth 100000

set_option maxHeartbeats 4000000 in
theorem releases_any (F : Nat → Prop) (a : Option Addr) (n c : Nat) (xs : List Srv) (w : World) (h : Sv w F a n c xs) (hn : n ≤ 32) (hp : ∀ i, i < n → 1 ≤ zP xs i) :
    Calls Tryz.prog 137 #[.slice a n c] w fun e w' => e = .returned (.int .i64 (relF (lcmV (zP xs) n 1048576) xs n)) ∧ Kept No w w' := by
  have hc := multiple_any F a n c xs w h (by omega)
  have H : Hid (Sv w F a n c xs) := h
  have HP : Hid (∀ i, i < n → 1 ≤ zP xs i) := hp
  obtain ⟨l0, l1⟩ := lcm_bd xs n
  clear h hp
  generalize lcmV (zP xs) n 1048576 = z1 at *
  generalize lcmB (zP xs) n 1048576 = z2 at *
  have HBD : Hid (∀ k, k ≤ n → 0 ≤ relF z1 xs k ∧ relF z1 xs k ≤ k * 2097152) := fun k hk => relF_bd (xs := xs) l0 l1 k (fun i hi => HP.out i (by omega))

  go_enter Tryz.func137, Tryz.ntmps137
  go_wp2_with (go_at_call 170; refine hc.mono ?_; rintro e w1 ⟨rfl, hk1⟩; have HK1 : Hid (Kept No w w1) := hk1; clear hk1)
  clear hc
  go_loopw [5, 15] (fun v x wr => ∃ k : Nat, k ≤ n ∧ x = .int .i64 k ∧ Kept No w wr ∧ v = .int .i64 (relF z1 xs k)) (fun _ x _ => n - (intOf x).toNat)
  case atStart => exact ⟨0, by omega, rfl, HK1.out, rfl⟩
  case round =>
    clear HK1
    obtain ⟨k, hk, rfl, hkr, rfl⟩ := hrel
    by_cases hlt : k < n
    · have hx : xs[k]? = some (xs.getD k ⟨0, 0, 0, 0⟩) := by rw [List.getD, List.getElem?_eq_getElem (by rw [H.out.len]; exact hlt)]; rfl
      obtain ⟨hok, b, o, rfl, hb, c0, c1, c2, c3⟩ := (H.out.keep hkr).at' k _ hx
      have hpk : 1 ≤ (xs.getD k ⟨0, 0, 0, 0⟩).p := HP.out k hlt
      have HS : Hid (relF z1 xs (k + 1) = relF z1 xs k + (2 * z1) / (xs.getD k ⟨0, 0, 0, 0⟩).p) := rfl
      have hpm : (xs.getD k ⟨0, 0, 0, 0⟩).p ≤ 9223372036854775807 := hok.1.2
      obtain ⟨r0, r1⟩ := HBD.out k hk
      have r2 : relF z1 xs k ≤ 67108864 := by
        have : (k : Int) * 2097152 ≤ 67108864 := by omega
        omega
      have HKR : Hid (Kept No w wr) := hkr
      clear hx hok hkr r1
      generalize xs.getD k ⟨0, 0, 0, 0⟩ = y at *
      obtain ⟨yp, yb, yo, yq⟩ := y
      simp only at c0 c1 c2 c3 HS hpk hpm
      generalize relF z1 xs k = rk at *
      have hd0 : 0 ≤ (2 * z1) / yp := Int.ediv_nonneg (by omega) (by omega)
      have hd1 : (2 * z1) / yp ≤ 2 * z1 := Int.ediv_le_self _ (by omega)
      go_wp2
      go_roundw
      case rel => exact ⟨k + 1, by omega, by go_num, HKR.out.alloc _, by rw [HS.out]⟩
      case measure => simp [intOf]; omega
    · have hke : k = n := by omega
      subst hke
      have HKR : Hid (Kept No w wr) := hkr
      clear hkr
      go_wp2
      go_ret
      exact ⟨rfl, HKR.out⟩

theorem hasHyper_any (F : Nat → Prop) (a : Option Addr) (n c : Nat) (xs : List Srv) (w : World) (h : Sv w F a n c xs) (hn : n ≤ 70000) :
    Calls Tryz.prog 135 #[.slice a n c] w fun e w' => e = .returned (.bool (lcmB (zP xs) n 1048576)) ∧ Kept No w w' := by
  have hc := multiple_any F a n c xs w h hn
  clear h
  generalize lcmV (zP xs) n 1048576 = z1 at *
  generalize lcmB (zP xs) n 1048576 = z2 at *
  go_enter Tryz.func135, Tryz.ntmps135
  go_wp2_with (go_at_call 170; refine hc.mono ?_; rintro e w1 ⟨rfl, hk1⟩; have HK1 : Hid (Kept No w w1) := hk1; clear hk1)
  go_ret
  exact ⟨rfl, HK1.out⟩

theorem trow2 (F : Nat → Prop) (a : Option Addr) (n c : Nat) (xs : List Srv) (w : World) (h : Sv w F a n c xs) (hn : n ≤ 32) (hp : ∀ i, i < n → 1 ≤ zP xs i) :
    Calls Tryz.prog 136 #[.slice a n c] w fun e w' => e = .returned (.bool (decide (relF (lcmV (zP xs) n 1048576) xs n ≤ 65536))) ∧ Kept No w w' := by
  have hc := releases_any F a n c xs w h hn hp
  clear h hp
  generalize relF (lcmV (zP xs) n 1048576) xs n = z1 at *
  go_enter Tryz.func136, Tryz.ntmps136
  go_wp2_with (go_at_call 137; refine hc.mono ?_; rintro e w1 ⟨rfl, hk1⟩; have HK1 : Hid (Kept No w w1) := hk1; clear hk1)
  go_ret
  exact ⟨rfl, HK1.out⟩

def rsT : Nat → Rw
  | 0 => ⟨102, .func (.func 135) #[] #[], .nilFunc, .nilFunc, rfl, rfl, rfl⟩
  | _ => ⟨103, .func (.func 136) #[] #[], .nilFunc, .nilFunc, rfl, rfl, rfl⟩
theorem table2 (w : World) : Calls Tryz.prog 84 #[] w fun e w' => ∃ tb, e = .returned (.slice (some ⟨tb, 0, none⟩) 2 2) ∧ Tb w' tb 2 rsT ∧ Kept No w w' := by
  have HK : Hid (∀ o, Kept No w (w.alloc o)) := fun o => (Kept.refl No w).alloc o
  go_enter Tryz.func84, Tryz.ntmps84
  go_wp2
  go_ret
  refine ⟨_, rfl, ?_, HK.out _⟩
  intro j hj
  match j, hj with
  | 0, _ => exact ⟨by simp [rsT], by simp [rsT], by simp [rsT], by simp [rsT]⟩
  | 1, _ => exact ⟨by simp [rsT], by simp [rsT], by simp [rsT], by simp [rsT]⟩

/-- of servers that may be one by one: all of them together -/
def togF (xs : List Srv) (n : Nat) : Option (Int × Int) :=
  if lcmB (zP xs) n 1048576 then (if relF (lcmV (zP xs) n 1048576) xs n ≤ 65536 then none else some (103, 0)) else some (102, 0)
def timF (xs : List Srv) (n : Nat) : Option (Int × Int) := match findF xs n with
  | some p => some p
  | none => togF xs n

theorem tog_any (F : Nat → Prop) (a : Option Addr) (n c : Nat) (xs : List Srv) (tb : Nat) (w : World) (h : Sv w F a n c xs) (hf : findF xs n = none) (hT : Tb w tb 2 rsT) :
    Calls Tryz.prog 83 #[.slice a n c, .slice (some ⟨tb, 0, none⟩) 2 2] w fun e w' => e = .returned (fv (togF xs n)) ∧ Kept No w w' := by
  obtain ⟨hn, hp⟩ := findF_none hf
  have := whole_any a n c tb 2 rsT (fun j => match j with | 0 => if lcmB (zP xs) n 1048576 then 0 else 102 | _ => if decide (relF (lcmV (zP xs) n 1048576) xs n ≤ 65536) then 0 else 103) w (by omega) hT (fun j w2 aa hj hw2 => by
    match j, hj with
    | 0, _ => exact findsSl_alone 102 _ #[] a n c aa 0 1 w2 (enters_of Tryz.func135 (by kernel_rfl) rfl) _ (fun w3 hw3 => hasHyper_any F a n c xs w3 ((h.keep hw2).keep hw3) (by omega))
    | 1, _ => exact findsSl_alone 103 _ #[] a n c aa 0 1 w2 (enters_of Tryz.func136 (by kernel_rfl) rfl) _ (fun w3 hw3 => trow2 F a n c xs w3 ((h.keep hw2).keep hw3) hn (fun i hi => (hp i hi).1)))
  have e : (if rowsF (fun j => match j with | 0 => if lcmB (zP xs) n 1048576 then 0 else 102 | _ => if decide (relF (lcmV (zP xs) n 1048576) xs n ≤ 65536) then 0 else 103) 2 = 0 then none else some (rowsF (fun j => match j with | 0 => if lcmB (zP xs) n 1048576 then 0 else 102 | _ => if decide (relF (lcmV (zP xs) n 1048576) xs n ≤ 65536) then 0 else 103) 2, (0 : Int))) = togF xs n := by
    unfold togF
    by_cases h1 : lcmB (zP xs) n 1048576 = true <;> by_cases h2 : relF (lcmV (zP xs) n 1048576) xs n ≤ 65536 <;> simp [rowsF, h1, h2]
  rw [e] at this
  exact this

theorem fv_some (p : Int × Int) : fv (some p) = Value.iface 99 (.agg #[.int .i64 p.1, .int .i64 p.2]) := rfl

set_option maxHeartbeats 2000000 in
theorem findTiming_any (F : Nat → Prop) (a : Option Addr) (n c : Nat) (xs : List Srv) (w : World) (h : Sv w F a n c xs) :
    Calls Tryz.prog 44 #[.slice a n c] w fun e w' => e = .returned (fv (timF xs n)) ∧ Kept No w w' := by
  have hc := findServer_any F a n c xs w h
  cases hf : findF xs n with
  | some p =>
    have HF : Hid (timF xs n = some p) := by show timF xs n = some p; unfold timF; rw [hf]
    rw [HF.out, fv_some]
    rw [hf, fv_some] at hc
    clear hf h
    go_enter Tryz.func44, Tryz.ntmps44
    go_wp2_with (go_at_call 82; refine hc.mono ?_; rintro e w1 ⟨rfl, hk1⟩; have HK1 : Hid (Kept No w w1) := hk1; clear hk1)
    go_ret
    exact ⟨rfl, HK1.out⟩
  | none =>
    have HF : Hid (timF xs n = togF xs n) := by show timF xs n = togF xs n; unfold timF; rw [hf]
    have H2 : Hid (∀ w', Kept No w w' → ∀ tb, Tb w' tb 2 rsT → Calls Tryz.prog 83 #[.slice a n c, .slice (some ⟨tb, 0, none⟩) 2 2] w' fun e w'' => e = .returned (fv (togF xs n)) ∧ Kept No w' w'') := fun w' hw tb hT => tog_any F a n c xs tb w' (h.keep hw) hf hT
    rw [HF.out]
    rw [hf, show fv none = Value.nilIface from rfl] at hc
    clear hf h
    generalize togF xs n = z at *
    go_enter Tryz.func44, Tryz.ntmps44
    go_wp2_with (first
      | (go_at_call 82; refine hc.mono ?_; rintro e w1 ⟨rfl, hk1⟩; have HK1 : Hid (Kept No w w1) := hk1; clear hk1)
      | (go_at_call 84; refine (table2 _).mono ?_; rintro e w3 ⟨tb3, rfl, hT, hk1⟩; have HK3 : Hid (Kept No w w3) := HK1.out.trans hk1 (fun _ h => h.elim); have hc3 := H2.out w3 HK3.out tb3 hT; clear hT hk1)
      | (go_at_call 83; refine hc3.mono ?_; rintro e w4 ⟨rfl, hk2⟩; have HK4 : Hid (Kept No w w4) := HK3.out.trans hk2 (fun _ h => h.elim); clear hk2 hc3))
    go_ret
    exact ⟨rfl, HK4.out⟩

def hyV (xs : List Srv) (n : Nat) : Int := match timF xs n with
  | some _ => 0
  | none => lcmV (zP xs) n 1048576
def hyE (xs : List Srv) (n : Nat) : Int := match timF xs n with
  | some p => p.1
  | none => 0

theorem tim_none {xs : List Srv} {n : Nat} (h : timF xs n = none) : findF xs n = none := by
  unfold timF at h
  cases hf : findF xs n with
  | none => rfl
  | some p => rw [hf] at h; cases h

end Go.Proofs.YtfjaajjljmbmbaaGreatDoor.Ck

namespace Go.Proofs.YtfjaajjljmbmbaaGreatDoor.Ck
open Go.RowKit Plain
set_option linter.unusedVariables false
set_option linter.unusedSimpArgs false
set_option maxRecDepth 100000

/-- cells of a block by a function -/
def Mf (w : World) (g N : Nat) (f : Nat → Srv) : Prop :=
  ∀ i, i < N → w.cell? ⟨g, i * 4, none⟩ = some (.int .i64 (f i).p) ∧ w.cell? ⟨g, i * 4 + 1, none⟩ = some (.int .i64 (f i).b) ∧ w.cell? ⟨g, i * 4 + 2, none⟩ = some (.int .i64 (f i).o) ∧ w.cell? ⟨g, i * 4 + 3, none⟩ = some (.int .i64 (f i).q)
def Fz (w : World) (g : Nat) : Prop := ∀ i, w.frozen? ⟨g, i, none⟩ = false
theorem Mf.kept {w w' : World} {g N : Nat} {f : Nat → Srv} {G : Nat → Prop} (h : Mf w g N f) (k : Kept G w w') (hg : ¬ G g) : Mf w' g N f := fun i hi => by
  obtain ⟨h0, h1, h2, h3⟩ := h i hi
  exact ⟨k.cell h0 hg, k.cell h1 hg, k.cell h2 hg, k.cell h3 hg⟩
theorem Mf.sv {w : World} {g N : Nat} {f : Nat → Srv} (h : Mf w g N f) (n c : Nat) (hn : n ≤ N) (hc : n ≤ c) (hm : c ≤ 9223372036854775807) (hok : ∀ i, i < n → (f i).ok) : Sv w (fun b => b = g) (some ⟨g, 0, none⟩) n c ((List.range n).map f) :=
  ⟨by simp, hc, hm, fun e => (by cases e), fun i x hx => by
    have hi : i < n := by
      apply Decidable.byContradiction
      intro hn
      rw [List.getElem?_eq_none (by simp; omega)] at hx
      cases hx
    rw [List.getElem?_map, List.getElem?_range hi] at hx
    simp at hx
    subst hx
    obtain ⟨h0, h1, h2, h3⟩ := h i (by omega)
    exact ⟨hok i hi, g, 0, rfl, rfl, by rw [Nat.zero_add]; exact h0, by rw [Nat.zero_add]; exact h1, by rw [Nat.zero_add]; exact h2, by rw [Nat.zero_add]; exact h3⟩⟩
theorem Sv.eq {w : World} {F : Nat → Prop} {a : Option Addr} {n c : Nat} {xs : List Srv} (h : Sv w F a n c xs) : xs = (List.range n).map (fun i => xs.getD i ⟨0, 0, 0, 0⟩) := by
  apply List.ext_getElem?
  intro i
  by_cases hi : i < n
  · rw [List.getElem?_map, List.getElem?_range hi, List.getElem?_eq_getElem (by rw [h.len]; exact hi)]
    simp [h.len, hi]
  · rw [List.getElem?_eq_none (by rw [h.len]; omega), List.getElem?_eq_none (by simp; omega)]
theorem Sv.ok {w : World} {F : Nat → Prop} {a : Option Addr} {n c : Nat} {xs : List Srv} (h : Sv w F a n c xs) (i : Nat) (hi : i < n) : (xs.getD i ⟨0, 0, 0, 0⟩).ok :=
  (h.at' i _ (by rw [List.getD, List.getElem?_eq_getElem (by rw [h.len]; exact hi)]; rfl)).1

/-- the cells of a list, one behind the other -/
def fl : List Srv → List Value
  | [] => []
  | x :: r => .int .i64 x.p :: .int .i64 x.b :: .int .i64 x.o :: .int .i64 x.q :: fl r
theorem fl_len : ∀ xs : List Srv, (fl xs).length = xs.length * 4
  | [] => rfl
  | x :: r => by simp only [fl, List.length_cons, fl_len r]; omega
theorem fl_app : ∀ xs ys : List Srv, fl (xs ++ ys) = fl xs ++ fl ys
  | [], ys => rfl
  | x :: r, ys => by simp only [fl, List.cons_append, fl_app r ys]
theorem fl_one : ∀ xs : List Srv, ∀ u ∈ fl xs, u.oneCell' = true
  | [], u, h => by cases h
  | x :: r, u, h => by
    simp only [fl, List.mem_cons] at h
    rcases h with rfl | rfl | rfl | rfl | h
    · rfl
    · rfl
    · rfl
    · rfl
    · exact fl_one r u h
theorem fl_get : ∀ (xs : List Srv) (i : Nat) (x : Srv), xs[i]? = some x → (fl xs)[i * 4]? = some (.int .i64 x.p) ∧ (fl xs)[i * 4 + 1]? = some (.int .i64 x.b) ∧ (fl xs)[i * 4 + 2]? = some (.int .i64 x.o) ∧ (fl xs)[i * 4 + 3]? = some (.int .i64 x.q)
  | [], i, x, h => by cases h
  | y :: r, 0, x, h => by simp at h; subst h; exact ⟨rfl, rfl, rfl, rfl⟩
  | y :: r, i + 1, x, h => by
    obtain ⟨h0, h1, h2, h3⟩ := fl_get r i x (by simpa using h)
    rw [show (i + 1) * 4 = i * 4 + 4 by omega]
    exact ⟨h0, h1, h2, h3⟩
theorem Sv.news {w : World} {F : Nat → Prop} {ad : Addr} {n c : Nat} {xs : List Srv} (h : Sv w F (some ad) n c xs) : ∀ j u, (fl xs)[j]? = some u → w.cell? (ad.add j) = some u := by
  intro j u hj
  have hlt : j < xs.length * 4 := by
    rw [← fl_len]
    exact (List.getElem?_eq_some_iff.1 hj).1
  obtain ⟨x, hx⟩ : ∃ x, xs[j / 4]? = some x := ⟨_, List.getElem?_eq_getElem (by omega)⟩
  obtain ⟨g0, g1, g2, g3⟩ := fl_get xs (j / 4) x hx
  obtain ⟨_, b, o, e, _, c0, c1, c2, c3⟩ := h.at' (j / 4) x hx
  simp only [Option.some.injEq] at e
  subst e
  rw [add_none]
  have h4 : j % 4 < 4 := Nat.mod_lt _ (by omega)
  rcases (by omega : j % 4 = 0 ∨ j % 4 = 1 ∨ j % 4 = 2 ∨ j % 4 = 3) with h4 | h4 | h4 | h4
  · rw [show j = j / 4 * 4 by omega] at hj; rw [g0] at hj; rw [show o + j = o + j / 4 * 4 by omega, c0]; exact hj
  · rw [show j = j / 4 * 4 + 1 by omega] at hj; rw [g1] at hj; rw [show o + j = o + j / 4 * 4 + 1 by omega, c1]; exact hj
  · rw [show j = j / 4 * 4 + 2 by omega] at hj; rw [g2] at hj; rw [show o + j = o + j / 4 * 4 + 2 by omega, c2]; exact hj
  · rw [show j = j / 4 * 4 + 3 by omega] at hj; rw [g3] at hj; rw [show o + j = o + j / 4 * 4 + 3 by omega, c3]; exact hj

theorem Tryz.infoS : (Tryz.prog.info? 77).map (fun i => (i.zero, i.size, i.bytes)) = some (some (.agg #[.int .i64 0, .int .i64 0, .int .i64 0, .int .i64 0]), 4, 32) := by kernel_rfl

/-- an owned row of servers, as cells -/
theorem own_mf {w : World} {B : Nat} {v : Value} {N : Nat} {xs : List Srv} (h : w.ownsRow B 77 4 v N (fl xs)) (hl : xs.length = N) :
    (v = .slice none 0 0 ∧ N = 0) ∨ ∃ g cap, v = .slice (some ⟨g, 0, none⟩) N cap ∧ B ≤ g ∧ g < w.heap.size ∧ N ≤ cap ∧ cap ≤ 9223372036854775807 ∧ Mf w g N (fun i => xs.getD i ⟨0, 0, 0, 0⟩) ∧ Fz w g := by
  have hc := h
  obtain ⟨_, h1 | ⟨g, cap, cur, rfl, hb, hg, hn, hm, _, _⟩⟩ := h
  · exact .inl h1
  · refine .inr ⟨g, cap, rfl, hb, (hc.lt g rfl).2, hn, Nat.le_trans hm (by unfold maxLen; omega), ?_, fun i => by simp [World.frozen?, hg]⟩
    intro i hi
    have hx : xs[i]? = some (xs.getD i ⟨0, 0, 0, 0⟩) := by rw [List.getD, List.getElem?_eq_getElem (by omega)]; rfl
    obtain ⟨g0, g1, g2, g3⟩ := fl_get xs i _ hx
    have key := hc.cells (g := g) rfl
    have k0 := key _ _ g0
    have k1 := key _ _ g1
    have k2 := key _ _ g2
    have k3 := key _ _ g3
    rw [add_none, Nat.zero_add] at k0 k1 k2 k3
    exact ⟨k0, k1, k2, k3⟩
theorem own_sv {w : World} {B : Nat} {v : Value} {N : Nat} {xs : List Srv} (h : w.ownsRow B 77 4 v N (fl xs)) (hl : xs.length = N) (hok : ∀ i, i < N → (xs.getD i ⟨0, 0, 0, 0⟩).ok) :
    ∃ a c, v = .slice a N c ∧ Sv w (fun g => v.ownBlock = some g) a N c xs := by
  rcases own_mf h hl with ⟨rfl, h0⟩ | ⟨g, cap, rfl, _, _, hn, hm, hf, _⟩
  · refine ⟨none, 0, by rw [h0], ⟨hl, by omega, by omega, fun _ => rfl, fun i x hx => ?_⟩⟩
    have := (List.getElem?_eq_some_iff.1 hx).1
    omega
  · refine ⟨_, cap, rfl, ?_⟩
    have h1 := hf.sv N cap (Nat.le_refl _) hn hm hok
    have h2 : xs = (List.range N).map (fun i => xs.getD i ⟨0, 0, 0, 0⟩) := by
      apply List.ext_getElem?
      intro i
      by_cases hi : i < N
      · rw [List.getElem?_map, List.getElem?_range hi, List.getElem?_eq_getElem (by omega)]
        simp [hl, hi]
      · rw [List.getElem?_eq_none (by omega), List.getElem?_eq_none (by simp; omega)]
    rw [← h2] at h1
    exact ⟨h1.len, h1.cap, h1.max, h1.nil, fun i x hx => by
      obtain ⟨ok, b, o, e, hb, r⟩ := h1.at' i x hx
      exact ⟨ok, b, o, e, by rw [hb]; rfl, r⟩⟩

theorem made0 (w : World) : (w.alloc (.cells #[] 77)).ownsRow w.heap.size 77 4 (.slice (some ⟨w.heap.size, 0, none⟩) 0 0) 0 [] := World.ownsRow_made w #[] 0 (Nat.le_refl _) (by unfold maxLen; omega) rfl
theorem cell_four (w : World) (x : Srv) (t : TypeId) : ∀ j u, (fl [x])[j]? = some u → (w.alloc (.cells #[.int .i64 x.p, .int .i64 x.b, .int .i64 x.o, .int .i64 x.q] t)).cell? (Addr.add ⟨w.heap.size, 0, none⟩ j) = some u := by
  intro j u hj
  match j, hj with
  | 0, hj => simp [fl] at hj; subst hj; simp [Addr.add]
  | 1, hj => simp [fl] at hj; subst hj; simp [Addr.add]
  | 2, hj => simp [fl] at hj; subst hj; simp [Addr.add]
  | 3, hj => simp [fl] at hj; subst hj; simp [Addr.add]
  | j + 4, hj => simp [fl] at hj
end Go.Proofs.YtfjaajjljmbmbaaGreatDoor.Ck
