/-
  One text: CHyp, CHyp2.
-/
import Derived.Test.YtibmgpinfdcaoaaGreatDoorG05
import Derived.Test.YtibmgpinfdcaoaaGreatDoorG07
namespace Go.Proofs.YtibmgpinfdcaoaaGreatDoor
open Go.RowKit Plain
set_option linter.unusedVariables false
set_option maxRecDepth 100000

def iv (x : Int) : Value := .int .i64 x
def zP (xs : List Srv) (i : Nat) : Int := (xs.getD i ⟨0, 0, 0, 0⟩).p
def psP (xs : List Srv) (k : Nat) : List Int := (List.range k).map (zP xs)
theorem psP_len (xs : List Srv) (k : Nat) : (psP xs k).length = k := by simp [psP]
theorem psP_succ (xs : List Srv) (k : Nat) : (psP xs (k + 1)).map iv = (psP xs k).map iv ++ [.int .i64 (zP xs k)] := by simp [psP, List.range_succ, iv]
theorem psP_get (xs : List Srv) (k i : Nat) (h : i < k) : ((psP xs k).map iv)[i]? = some (.int .i64 (zP xs i)) := by simp [psP, h, iv]
theorem Tryz.infoI : (Tryz.prog.info? 3).map (fun i => (i.zero, i.size, i.bytes)) = some (some (.int .i64 0), 1, 8) := by kernel_rfl
theorem Tryz.infoL : (Tryz.prog.info? 2).map (fun i => (i.zero, i.size, i.bytes)) = some (some (.int .i64 0), 1, 8) := by kernel_rfl
theorem info_parts {P : Program} {t : TypeId} {z : Option Value} {s b : Nat} (h : (P.info? t).map (fun i => (i.zero, i.size, i.bytes)) = some (z, s, b)) : ∃ i, P.info? t = some i ∧ i.zero = z ∧ i.size = s ∧ i.bytes = b := by
  cases hi : P.info? t with
  | none => rw [hi] at h; cases h
  | some i => rw [hi] at h; simp only [Option.map_some, Option.some.injEq, Prod.mk.injEq] at h; exact ⟨i, rfl, h.1, h.2.1, h.2.2⟩
theorem cell_one_new (w : World) (v : Value) (t : TypeId) : ∀ j u, [v][j]? = some u → (w.alloc (.cells #[v] t)).cell? (Addr.add ⟨w.heap.size, 0, none⟩ j) = some u := by
  intro j u hj
  match j, hj with
  | 0, hj => simp at hj; subst hj; simp [Addr.add]
  | j + 1, hj => simp at hj

theorem cell_one_at (w : World) (v : Value) (t : TypeId) (g : Nat) (hg : g = w.heap.size) : ∀ j u, [v][j]? = some u → (w.alloc (.cells #[v] t)).cell? (Addr.add ⟨g, 0, none⟩ j) = some u := by
  subst hg; exact cell_one_new w v t

theorem row_of (w : World) (B : Nat) (t : TypeId) (v : Value) (xs : List Srv) (n : Nat) (h : w.ownsRow B t 1 v n ((psP xs n).map iv)) (hok : ∀ i, i < n → I64 (zP xs i)) : ∃ a c, v = .slice a n c ∧ Row w a n (zP xs) := by
  rcases owns_cells h with ⟨rfl, h0⟩ | ⟨g, cap, rfl, hb, hg, hn, hm, hc, hf⟩
  · exact ⟨none, 0, by rw [h0], fun i hi => by omega⟩
  · exact ⟨_, cap, rfl, fun i hi => ⟨g, 0, rfl, by rw [Nat.zero_add]; exact hc i _ (psP_get xs n i hi), hok i hi⟩⟩

set_option maxHeartbeats 4000000 in
theorem multiple_any (F : Nat → Prop) (a : Option Addr) (n c : Nat) (xs : List Srv) (w : World) (h : Sv w F a n c xs) (hn : n ≤ 70000) :
    Calls Tryz.prog 38 #[.slice a n c] w fun e w' => e = .returned (.tuple #[.int .i64 (lcmV (zP xs) n 1048576), .bool (lcmB (zP xs) n 1048576)]) ∧ Kept No w w' := by
  obtain ⟨i0, hi, hz0, hz1, hz2⟩ := info_parts Tryz.infoI
  have H : Hid (Sv w F a n c xs) := h
  obtain ⟨z1, hz1'⟩ : ∃ z, z = lcmV (zP xs) n 1048576 := ⟨_, rfl⟩
  obtain ⟨z2, hz2'⟩ : ∃ z, z = lcmB (zP xs) n 1048576 := ⟨_, rfl⟩
  rw [← hz1', ← hz2']
  have HZ1 : Hid (z1 = lcmV (zP xs) n 1048576) := hz1'
  have HZ2 : Hid (z2 = lcmB (zP xs) n 1048576) := hz2'
  clear h hz1' hz2'
  go_enter Tryz.func38, Tryz.ntmps38
  go_wp2
  go_loopw [4, 9] (fun v x wr => ∃ k : Nat, k ≤ n ∧ x = .int .i64 k ∧ Kept No w wr ∧ wr.ownsRow w.heap.size 3 1 v k ((psP xs k).map iv)) (fun _ x _ => n - (intOf x).toNat)
  case atStart => exact ⟨0, by omega, rfl, Kept.refl No w, ⟨rfl, .inl ⟨rfl, rfl⟩⟩⟩
  case round =>
    obtain ⟨k, hk, rfl, hkr, hown⟩ := hrel
    by_cases hlt : k < n
    · have hx : xs[k]? = some (xs.getD k ⟨0, 0, 0, 0⟩) := by rw [List.getD, List.getElem?_eq_getElem (by rw [H.out.len]; exact hlt)]; rfl
      obtain ⟨hok, b, o, rfl, hb, c0, c1, c2, c3⟩ := (H.out.keep hkr).at' k _ hx
      have HNX : Hid ((psP xs (k + 1)).map iv = (psP xs k).map iv ++ [.int .i64 (xs.getD k ⟨0, 0, 0, 0⟩).p]) := psP_succ xs k
      have HL : Hid (((psP xs k).map iv).length = k) := by show ((psP xs k).map iv).length = k; rw [List.length_map, psP_len]
      clear hx hok
      generalize (psP xs k).map iv = L0 at *
      generalize xs.getD k ⟨0, 0, 0, 0⟩ = y at *
      obtain ⟨yp, yb, yo, yq⟩ := y
      simp only at c0 c1 c2 c3 HNX
      have HOW : Hid (wr.ownsRow w.heap.size 3 1 u4 k L0) := hown
      have HKR : Hid (Kept No w wr) := hkr
      clear hown hkr
      go_wp2_with (at_builtin; refine wpList_append_own_at _ rfl _ _ 25 rfl w.heap.size 3 i0 (.int .i64 0) 1 8 Tryz.underlying25 hi hz0 hz1 hz2 rfl (by decide) _ _ _ rfl ((HOW.out.alloc _).alloc _) ⟨wr.heap.size + 1, 0, none⟩ 1 1 [.int .i64 yp] rfl rfl (cell_one_at _ _ _ _ (by simp)) (one_one _ _) (by unfold maxLen; omega) (by omega) (by have := HKR.out.size; simp; omega) ?_; intro v1 w6 own1 grow1 _ at1)
      have HK6 : Hid (Kept No w w6 ∧ w6.ownsRow w.heap.size 3 1 v1 (k + 1) ((psP xs (k + 1)).map iv)) := by
        exact ⟨((HKR.out.alloc _).alloc _).grown grow1 (fun g e => .inr (HOW.out.lt g e).1), by rw [HNX.out]; exact own1⟩
      clear own1 grow1 at1
      go_wp2
      go_roundw
      case rel => exact ⟨k + 1, by omega, by go_num, HK6.out.1, HK6.out.2⟩
      case measure => simp [intOf]; omega
    · have hke : k = n := by omega
      subst hke
      obtain ⟨sa, sc, rfl, hrow⟩ := row_of wr w.heap.size 3 u4 xs k hown (fun i hi => by
        have hx : xs[i]? = some (xs.getD i ⟨0, 0, 0, 0⟩) := by rw [List.getD, List.getElem?_eq_getElem (by rw [H.out.len]; exact hi)]; rfl
        exact (H.out.at' i _ hx).1.1)
      have hc := lcmInt_any sa k sc (zP xs) 1048576 wr (by omega) (by unfold I64; omega) hrow
      have HKR : Hid (Kept No w wr) := hkr
      clear hown hkr hrow
      rw [← HZ1.out, ← HZ2.out] at hc
      go_wp2_with (go_at_call 54; refine hc.mono ?_; rintro e w2 ⟨rfl, nn, rfl⟩)
      go_ret2
      exact ⟨rfl, HKR.out.drewN _⟩
theorem eachF_none {r : Nat → Int} {first : Int} : ∀ {n : Nat}, eachF r first n = none → ∀ i, i < n → r i = 0
  | 0, _, i, hi => by omega
  | n + 1, h, i, hi => by
    rw [eachF] at h
    cases he : eachF r first n with
    | some p => rw [he] at h; cases h
    | none =>
      rw [he] at h
      rcases Nat.lt_or_eq_of_le (Nat.lt_succ_iff.1 hi) with h1 | h1
      · exact eachF_none he i h1
      · subst h1
        apply Decidable.byContradiction
        intro hn
        simp [hn] at h
theorem rowsF_zero {e : Nat → Int} : ∀ {m : Nat}, rowsF e m = 0 → ∀ j, j < m → e j = 0
  | 0, _, j, hj => by omega
  | m + 1, h, j, hj => by
    rw [rowsF] at h
    by_cases he : rowsF e m = 0
    · rw [if_pos he] at h
      rcases Nat.lt_or_eq_of_le (Nat.lt_succ_iff.1 hj) with h1 | h1
      · exact rowsF_zero he j h1
      · subst h1; exact h
    · rw [if_neg he] at h; exact absurd h he
theorem findF_none {xs : List Srv} {n : Nat} (h : findF xs n = none) : n ≤ 32 ∧ ∀ i, i < n → 1 ≤ zP xs i ∧ zP xs i ≤ 1048576 := by
  unfold findF at h
  by_cases h32 : n ≤ 32
  · rw [if_pos h32] at h
    refine ⟨h32, fun i hi => ?_⟩
    have := rowsF_zero (eachF_none h i hi) 0 (by omega)
    simp only [bS] at this
    by_cases hb : inB (xs.getD i ⟨0, 0, 0, 0⟩).p 1 1048576 = true
    · simp [inB] at hb; exact hb
    · rw [if_neg hb] at this; omega
  · rw [if_neg h32] at h; cases h

def relF (h : Int) (xs : List Srv) : Nat → Int
  | 0 => 0
  | k + 1 => relF h xs k + (2 * h) / zP xs k
theorem relF_bd {h : Int} {xs : List Srv} (h0 : 0 ≤ h) (h1 : h ≤ 1048576) : ∀ k, (∀ i, i < k → 1 ≤ zP xs i) → 0 ≤ relF h xs k ∧ relF h xs k ≤ k * 2097152
  | 0, _ => by simp [relF]
  | k + 1, hp => by
    have ih := relF_bd h0 h1 k (fun i hi => hp i (by omega))
    have hk := hp k (by omega)
    have d0 : 0 ≤ (2 * h) / zP xs k := Int.ediv_nonneg (by omega) (by omega)
    have d1 : (2 * h) / zP xs k ≤ 2 * h := Int.ediv_le_self _ (by omega)
    rw [relF]
    constructor
    · omega
    · push_cast; omega
theorem lcm_bd (xs : List Srv) (n : Nat) : 0 ≤ lcmV (zP xs) n 1048576 ∧ lcmV (zP xs) n 1048576 ≤ 1048576 := by
  obtain ⟨h0, h1, _⟩ := lcmV_facts (zP xs) n 1048576
  refine ⟨h0, ?_⟩
  by_cases h : 0 < lcmV (zP xs) n 1048576
  · exact (h1 h).1
  · omega

end Go.Proofs.YtibmgpinfdcaoaaGreatDoor

namespace Go.Proofs.YtibmgpinfdcaoaaGreatDoor
open Go.RowKit Plain
set_option linter.unusedVariables false
set_option maxRecDepth 100000

set_option maxHeartbeats 4000000 in
theorem releases_any (F : Nat → Prop) (a : Option Addr) (n c : Nat) (xs : List Srv) (w : World) (h : Sv w F a n c xs) (hn : n ≤ 32) (hp : ∀ i, i < n → 1 ≤ zP xs i) :
    Calls Tryz.prog 70 #[.slice a n c] w fun e w' => e = .returned (.int .i64 (relF (lcmV (zP xs) n 1048576) xs n)) ∧ Kept No w w' := by
  have hc := multiple_any F a n c xs w h (by omega)
  have H : Hid (Sv w F a n c xs) := h
  have HP : Hid (∀ i, i < n → 1 ≤ zP xs i) := hp
  obtain ⟨l0, l1⟩ := lcm_bd xs n
  clear h hp
  generalize lcmV (zP xs) n 1048576 = z1 at *
  generalize lcmB (zP xs) n 1048576 = z2 at *
  have HBD : Hid (∀ k, k ≤ n → 0 ≤ relF z1 xs k ∧ relF z1 xs k ≤ k * 2097152) := fun k hk => relF_bd (xs := xs) l0 l1 k (fun i hi => HP.out i (by omega))

  go_enter Tryz.func70, Tryz.ntmps70
  go_wp2_with (go_at_call 38; refine hc.mono ?_; rintro e w1 ⟨rfl, hk1⟩; have HK1 : Hid (Kept No w w1) := hk1; clear hk1)
  clear hc
  go_loopw [5, 15] (fun v x wr => ∃ k : Nat, k ≤ n ∧ x = .int .i64 k ∧ Kept No w wr ∧ v = .int .i64 (relF z1 xs k)) (fun _ x _ => n - (intOf x).toNat)
  case atStart => exact ⟨0, by omega, rfl, HK1.out, rfl⟩
  case round =>
    clear HK1
    obtain ⟨k, hk, rfl, hkr, rfl⟩ := hrel
    by_cases hlt : k < n
    · have hx : xs[k]? = some (xs.getD k ⟨0, 0, 0, 0⟩) := by rw [List.getD, List.getElem?_eq_getElem (by rw [H.out.len]; exact hlt)]; rfl
      obtain ⟨hok, b, o, rfl, hb, c0, c1, c2, c3⟩ := (H.out.keep hkr).at' k _ hx
      have hpk : 1 ≤ (xs.getD k ⟨0, 0, 0, 0⟩).p := HP.out k hlt
      have HS : Hid (relF z1 xs (k + 1) = relF z1 xs k + (2 * z1) / (xs.getD k ⟨0, 0, 0, 0⟩).p) := rfl
      have hpm : (xs.getD k ⟨0, 0, 0, 0⟩).p ≤ 9223372036854775807 := hok.1.2
      obtain ⟨r0, r1⟩ := HBD.out k hk
      have r2 : relF z1 xs k ≤ 67108864 := by
        have : (k : Int) * 2097152 ≤ 67108864 := by omega
        omega
      have HKR : Hid (Kept No w wr) := hkr
      clear hx hok hkr r1
      generalize xs.getD k ⟨0, 0, 0, 0⟩ = y at *
      obtain ⟨yp, yb, yo, yq⟩ := y
      simp only at c0 c1 c2 c3 HS hpk hpm
      generalize relF z1 xs k = rk at *
      have hd0 : 0 ≤ (2 * z1) / yp := Int.ediv_nonneg (by omega) (by omega)
      have hd1 : (2 * z1) / yp ≤ 2 * z1 := Int.ediv_le_self _ (by omega)
      go_wp2
      go_roundw
      case rel => exact ⟨k + 1, by omega, by go_num, HKR.out.alloc _, by rw [HS.out]⟩
      case measure => simp [intOf]; omega
    · have hke : k = n := by omega
      subst hke
      have HKR : Hid (Kept No w wr) := hkr
      clear hkr
      go_wp2
      go_ret
      exact ⟨rfl, HKR.out⟩

theorem hasHyper_any (F : Nat → Prop) (a : Option Addr) (n c : Nat) (xs : List Srv) (w : World) (h : Sv w F a n c xs) (hn : n ≤ 70000) :
    Calls Tryz.prog 68 #[.slice a n c] w fun e w' => e = .returned (.bool (lcmB (zP xs) n 1048576)) ∧ Kept No w w' := by
  have hc := multiple_any F a n c xs w h hn
  clear h
  generalize lcmV (zP xs) n 1048576 = z1 at *
  generalize lcmB (zP xs) n 1048576 = z2 at *
  go_enter Tryz.func68, Tryz.ntmps68
  go_wp2_with (go_at_call 38; refine hc.mono ?_; rintro e w1 ⟨rfl, hk1⟩; have HK1 : Hid (Kept No w w1) := hk1; clear hk1)
  go_ret
  exact ⟨rfl, HK1.out⟩

theorem trow2 (F : Nat → Prop) (a : Option Addr) (n c : Nat) (xs : List Srv) (w : World) (h : Sv w F a n c xs) (hn : n ≤ 32) (hp : ∀ i, i < n → 1 ≤ zP xs i) :
    Calls Tryz.prog 69 #[.slice a n c] w fun e w' => e = .returned (.bool (decide (relF (lcmV (zP xs) n 1048576) xs n ≤ 65536))) ∧ Kept No w w' := by
  have hc := releases_any F a n c xs w h hn hp
  clear h hp
  generalize relF (lcmV (zP xs) n 1048576) xs n = z1 at *
  go_enter Tryz.func69, Tryz.ntmps69
  go_wp2_with (go_at_call 70; refine hc.mono ?_; rintro e w1 ⟨rfl, hk1⟩; have HK1 : Hid (Kept No w w1) := hk1; clear hk1)
  go_ret
  exact ⟨rfl, HK1.out⟩

def rsT : Nat → Rw
  | 0 => ⟨102, .func (.func 68) #[] #[], .nilFunc, .nilFunc, rfl, rfl, rfl⟩
  | _ => ⟨103, .func (.func 69) #[] #[], .nilFunc, .nilFunc, rfl, rfl, rfl⟩
theorem table2 (w : World) : Calls Tryz.prog 52 #[] w fun e w' => ∃ tb, e = .returned (.slice (some ⟨tb, 0, none⟩) 2 2) ∧ Tb w' tb 2 rsT ∧ Kept No w w' := by
  have HK : Hid (∀ o, Kept No w (w.alloc o)) := fun o => (Kept.refl No w).alloc o
  go_enter Tryz.func52, Tryz.ntmps52
  go_wp2
  go_ret
  refine ⟨_, rfl, ?_, HK.out _⟩
  intro j hj
  match j, hj with
  | 0, _ => exact ⟨by simp [rsT], by simp [rsT], by simp [rsT], by simp [rsT]⟩
  | 1, _ => exact ⟨by simp [rsT], by simp [rsT], by simp [rsT], by simp [rsT]⟩

/-- of servers that may be one by one: all of them together -/
def togF (xs : List Srv) (n : Nat) : Option (Int × Int) :=
  if lcmB (zP xs) n 1048576 then (if relF (lcmV (zP xs) n 1048576) xs n ≤ 65536 then none else some (103, 0)) else some (102, 0)
def timF (xs : List Srv) (n : Nat) : Option (Int × Int) := match findF xs n with
  | some p => some p
  | none => togF xs n

theorem tog_any (F : Nat → Prop) (a : Option Addr) (n c : Nat) (xs : List Srv) (tb : Nat) (w : World) (h : Sv w F a n c xs) (hf : findF xs n = none) (hT : Tb w tb 2 rsT) :
    Calls Tryz.prog 51 #[.slice a n c, .slice (some ⟨tb, 0, none⟩) 2 2] w fun e w' => e = .returned (fv (togF xs n)) ∧ Kept No w w' := by
  obtain ⟨hn, hp⟩ := findF_none hf
  have := whole_any a n c tb 2 rsT (fun j => match j with | 0 => if lcmB (zP xs) n 1048576 then 0 else 102 | _ => if decide (relF (lcmV (zP xs) n 1048576) xs n ≤ 65536) then 0 else 103) w (by omega) hT (fun j w2 aa hj hw2 => by
    match j, hj with
    | 0, _ => exact findsSl_alone 102 _ #[] a n c aa 0 1 w2 (enters_of Tryz.func68 (by kernel_rfl) rfl) _ (fun w3 hw3 => hasHyper_any F a n c xs w3 ((h.keep hw2).keep hw3) (by omega))
    | 1, _ => exact findsSl_alone 103 _ #[] a n c aa 0 1 w2 (enters_of Tryz.func69 (by kernel_rfl) rfl) _ (fun w3 hw3 => trow2 F a n c xs w3 ((h.keep hw2).keep hw3) hn (fun i hi => (hp i hi).1)))
  have e : (if rowsF (fun j => match j with | 0 => if lcmB (zP xs) n 1048576 then 0 else 102 | _ => if decide (relF (lcmV (zP xs) n 1048576) xs n ≤ 65536) then 0 else 103) 2 = 0 then none else some (rowsF (fun j => match j with | 0 => if lcmB (zP xs) n 1048576 then 0 else 102 | _ => if decide (relF (lcmV (zP xs) n 1048576) xs n ≤ 65536) then 0 else 103) 2, (0 : Int))) = togF xs n := by
    unfold togF
    by_cases h1 : lcmB (zP xs) n 1048576 = true <;> by_cases h2 : relF (lcmV (zP xs) n 1048576) xs n ≤ 65536 <;> simp [rowsF, h1, h2]
  rw [e] at this
  exact this

theorem fv_some (p : Int × Int) : fv (some p) = Value.iface 87 (.agg #[.int .i64 p.1, .int .i64 p.2]) := rfl

set_option maxHeartbeats 2000000 in
theorem findTiming_any (F : Nat → Prop) (a : Option Addr) (n c : Nat) (xs : List Srv) (w : World) (h : Sv w F a n c xs) :
    Calls Tryz.prog 36 #[.slice a n c] w fun e w' => e = .returned (fv (timF xs n)) ∧ Kept No w w' := by
  have hc := findServer_any F a n c xs w h
  cases hf : findF xs n with
  | some p =>
    have HF : Hid (timF xs n = some p) := by show timF xs n = some p; unfold timF; rw [hf]
    rw [HF.out, fv_some]
    rw [hf, fv_some] at hc
    clear hf h
    go_enter Tryz.func36, Tryz.ntmps36
    go_wp2_with (go_at_call 50; refine hc.mono ?_; rintro e w1 ⟨rfl, hk1⟩; have HK1 : Hid (Kept No w w1) := hk1; clear hk1)
    go_ret
    exact ⟨rfl, HK1.out⟩
  | none =>
    have HF : Hid (timF xs n = togF xs n) := by show timF xs n = togF xs n; unfold timF; rw [hf]
    have H2 : Hid (∀ w', Kept No w w' → ∀ tb, Tb w' tb 2 rsT → Calls Tryz.prog 51 #[.slice a n c, .slice (some ⟨tb, 0, none⟩) 2 2] w' fun e w'' => e = .returned (fv (togF xs n)) ∧ Kept No w' w'') := fun w' hw tb hT => tog_any F a n c xs tb w' (h.keep hw) hf hT
    rw [HF.out]
    rw [hf, show fv none = Value.nilIface from rfl] at hc
    clear hf h
    generalize togF xs n = z at *
    go_enter Tryz.func36, Tryz.ntmps36
    go_wp2_with (first
      | (go_at_call 50; refine hc.mono ?_; rintro e w1 ⟨rfl, hk1⟩; have HK1 : Hid (Kept No w w1) := hk1; clear hk1)
      | (go_at_call 52; refine (table2 _).mono ?_; rintro e w3 ⟨tb3, rfl, hT, hk1⟩; have HK3 : Hid (Kept No w w3) := HK1.out.trans hk1 (fun _ h => h.elim); have hc3 := H2.out w3 HK3.out tb3 hT; clear hT hk1)
      | (go_at_call 51; refine hc3.mono ?_; rintro e w4 ⟨rfl, hk2⟩; have HK4 : Hid (Kept No w w4) := HK3.out.trans hk2 (fun _ h => h.elim); clear hk2 hc3))
    go_ret
    exact ⟨rfl, HK4.out⟩

def hyV (xs : List Srv) (n : Nat) : Int := match timF xs n with
  | some _ => 0
  | none => lcmV (zP xs) n 1048576
def hyE (xs : List Srv) (n : Nat) : Int := match timF xs n with
  | some p => p.1
  | none => 0

theorem tim_none {xs : List Srv} {n : Nat} (h : timF xs n = none) : findF xs n = none := by
  unfold timF at h
  cases hf : findF xs n with
  | none => rfl
  | some p => rw [hf] at h; cases h

set_option maxHeartbeats 2000000 in
theorem hyper_any (F : Nat → Prop) (a : Option Addr) (n c : Nat) (xs : List Srv) (w : World) (hg : Gl w) (h : Sv w F a n c xs) :
    Calls Tryz.prog 24 #[.slice a n c] w fun e w' => e = .returned (.tuple #[.int .i64 (hyV xs n), .int .i64 (hyE xs n)]) ∧ Kept No w w' := by
  have hc := findTiming_any F a n c xs w h
  cases hf : timF xs n with
  | some p =>
    obtain ⟨px, py⟩ := p
    rw [show hyV xs n = 0 by unfold hyV; rw [hf], show hyE xs n = px by unfold hyE; rw [hf]]
    have H2 : Hid (∀ w', Kept No w w' → Calls Tryz.prog 37 #[.iface 87 (.agg #[.int .i64 px, .int .i64 py])] w' fun e w'' => e = .returned (.tuple #[.int .i64 px, .int .i64 py]) ∧ Kept No w' w'') := fun w' hw => told_any (some (px, py)) w' (hg.kept hw)
    rw [hf, fv_some] at hc
    clear hf h hg
    go_enter Tryz.func24, Tryz.ntmps24
    go_wp2_with (first
      | (go_at_call 36; refine hc.mono ?_; rintro e w1 ⟨rfl, hk1⟩; have HK1 : Hid (Kept No w w1) := hk1; have hc2 := H2.out w1 hk1; clear hk1)
      | (go_at_call 37; refine hc2.mono ?_; rintro e w2 ⟨rfl, hk1⟩; have HK2 : Hid (Kept No w w2) := HK1.out.trans hk1 (fun _ h => h.elim); clear hk1))
    go_ret2
    exact ⟨rfl, HK2.out⟩
  | none =>
    have hn := (findF_none (tim_none hf)).1
    rw [show hyV xs n = lcmV (zP xs) n 1048576 by unfold hyV; rw [hf], show hyE xs n = 0 by unfold hyE; rw [hf]]
    have H2 : Hid (∀ w', Kept No w w' → Calls Tryz.prog 38 #[.slice a n c] w' fun e w' => e = .returned (.tuple #[.int .i64 (lcmV (zP xs) n 1048576), .bool (lcmB (zP xs) n 1048576)]) ∧ Kept No w w') := fun w' hw => (multiple_any F a n c xs w' (h.keep hw) (by omega)).mono (fun e w2 he => ⟨he.1, hw.trans he.2 (fun _ h => h.elim)⟩)
    rw [hf, show fv none = Value.nilIface from rfl] at hc
    clear hf h hg
    generalize lcmV (zP xs) n 1048576 = z1 at *
    generalize lcmB (zP xs) n 1048576 = z2 at *
    go_enter Tryz.func24, Tryz.ntmps24
    go_wp2_with (first
      | (go_at_call 36; refine hc.mono ?_; rintro e w1 ⟨rfl, hk1⟩; have HK1 : Hid (Kept No w w1) := hk1; have hc2 := H2.out w1 hk1; clear hk1)
      | (go_at_call 38; refine hc2.mono ?_; rintro e w2 ⟨rfl, hk1⟩; have HK2 : Hid (Kept No w w2) := hk1; clear hk1))
    go_ret2
    exact ⟨rfl, HK2.out⟩
end Go.Proofs.YtibmgpinfdcaoaaGreatDoor
