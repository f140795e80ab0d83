/-
  'multiple', 'releases', 'findTiming', 'Hyper'.
-/
import Derived.Test.YtggejpccjmolhaaGreatDoorG05
import Derived.Test.YtggejpccjmolhaaGreatDoorG07
namespace Go.Proofs.YtggejpccjmolhaaGreatDoor
open Go.RowKit Plain
set_option linter.unusedVariables false
set_option maxRecDepth 100000

def iv (x : Int) : Value := .int .i64 x
def zP (xs : List Srv) (i : Nat) : Int := (xs.getD i ⟨0, 0, 0, 0⟩).p
def psP (xs : List Srv) (k : Nat) : List Int := (List.range k).map (zP xs)
theorem psP_len (xs : List Srv) (k : Nat) : (psP xs k).length = k := by simp [psP]
theorem psP_succ (xs : List Srv) (k : Nat) : (psP xs (k + 1)).map iv = (psP xs k).map iv ++ [.int .i64 (zP xs k)] := by simp [psP, List.range_succ, iv]
theorem psP_get (xs : List Srv) (k i : Nat) (h : i < k) : ((psP xs k).map iv)[i]? = some (.int .i64 (zP xs i)) := by simp [psP, h, iv]
theorem Tryz.infoI : (Tryz.prog.info? 3).map (fun i => (i.zero, i.size, i.bytes)) = some (some (.int .i64 0), 1, 8) := by kernel_rfl
theorem Tryz.infoL : (Tryz.prog.info? 2).map (fun i => (i.zero, i.size, i.bytes)) = some (some (.int .i64 0), 1, 8) := by kernel_rfl
theorem info_parts {P : Program} {t : TypeId} {z : Option Value} {s b : Nat} (h : (P.info? t).map (fun i => (i.zero, i.size, i.bytes)) = some (z, s, b)) : ∃ i, P.info? t = some i ∧ i.zero = z ∧ i.size = s ∧ i.bytes = b := by
  cases hi : P.info? t with
  | none => rw [hi] at h; cases h
  | some i => rw [hi] at h; simp only [Option.map_some, Option.some.injEq, Prod.mk.injEq] at h; exact ⟨i, rfl, h.1, h.2.1, h.2.2⟩
theorem cell_one_new (w : World) (v : Value) (t : TypeId) : ∀ j u, [v][j]? = some u → (w.alloc (.cells #[v] t)).cell? (Addr.add ⟨w.heap.size, 0, none⟩ j) = some u := by
  intro j u hj
  match j, hj with
  | 0, hj => simp at hj; subst hj; simp [Addr.add]
  | j + 1, hj => simp at hj

theorem cell_one_at (w : World) (v : Value) (t : TypeId) (g : Nat) (hg : g = w.heap.size) : ∀ j u, [v][j]? = some u → (w.alloc (.cells #[v] t)).cell? (Addr.add ⟨g, 0, none⟩ j) = some u := by
  subst hg; exact cell_one_new w v t

theorem row_of (w : World) (B : Nat) (t : TypeId) (v : Value) (xs : List Srv) (n : Nat) (h : w.ownsRow B t 1 v n ((psP xs n).map iv)) (hok : ∀ i, i < n → I64 (zP xs i)) : ∃ a c, v = .slice a n c ∧ Row w a n (zP xs) := by
  rcases owns_cells h with ⟨rfl, h0⟩ | ⟨g, cap, rfl, hb, hg, hn, hm, hc, hf⟩
  · exact ⟨none, 0, by rw [h0], fun i hi => by omega⟩
  · exact ⟨_, cap, rfl, fun i hi => ⟨g, 0, rfl, by rw [Nat.zero_add]; exact hc i _ (psP_get xs n i hi), hok i hi⟩⟩

set_option maxHeartbeats 4000000 in
theorem multiple_any (F : Nat → Prop) (a : Option Addr) (n c : Nat) (xs : List Srv) (w : World) (h : Sv w F a n c xs) (hn : n ≤ 70000) :
    Calls Tryz.prog 163 #[.slice a n c] w fun e w' => e = .returned (.tuple #[.int .i64 (lcmV (zP xs) n 1048576), .bool (lcmB (zP xs) n 1048576)]) ∧ Kept No w w' := by
  obtain ⟨i0, hi, hz0, hz1, hz2⟩ := info_parts Tryz.infoI
  have H : Hid (Sv w F a n c xs) := h
  obtain ⟨z1, hz1'⟩ : ∃ z, z = lcmV (zP xs) n 1048576 := ⟨_, rfl⟩
  obtain ⟨z2, hz2'⟩ : ∃ z, z = lcmB (zP xs) n 1048576 := ⟨_, rfl⟩
  rw [← hz1', ← hz2']
  have HZ1 : Hid (z1 = lcmV (zP xs) n 1048576) := hz1'
  have HZ2 : Hid (z2 = lcmB (zP xs) n 1048576) := hz2'
  clear h hz1' hz2'
  go_enter Tryz.func163, Tryz.ntmps163
  go_wp2
  go_loopw [4, 9] (fun v x wr => ∃ k : Nat, k ≤ n ∧ x = .int .i64 k ∧ Kept No w wr ∧ wr.ownsRow w.heap.size 3 1 v k ((psP xs k).map iv)) (fun _ x _ => n - (intOf x).toNat)
  case atStart => exact ⟨0, by omega, rfl, Kept.refl No w, ⟨rfl, .inl ⟨rfl, rfl⟩⟩⟩
  case round =>
    obtain ⟨k, hk, rfl, hkr, hown⟩ := hrel
    by_cases hlt : k < n
    · have hx : xs[k]? = some (xs.getD k ⟨0, 0, 0, 0⟩) := by rw [List.getD, List.getElem?_eq_getElem (by rw [H.out.len]; exact hlt)]; rfl
      obtain ⟨hok, b, o, rfl, hb, c0, c1, c2, c3⟩ := (H.out.keep hkr).at' k _ hx
      have HNX : Hid ((psP xs (k + 1)).map iv = (psP xs k).map iv ++ [.int .i64 (xs.getD k ⟨0, 0, 0, 0⟩).p]) := psP_succ xs k
      have HL : Hid (((psP xs k).map iv).length = k) := by show ((psP xs k).map iv).length = k; rw [List.length_map, psP_len]
      clear hx hok
      generalize (psP xs k).map iv = L0 at *
      generalize xs.getD k ⟨0, 0, 0, 0⟩ = y at *
      obtain ⟨yp, yb, yo, yq⟩ := y
      simp only at c0 c1 c2 c3 HNX
      have HOW : Hid (wr.ownsRow w.heap.size 3 1 u4 k L0) := hown
      have HKR : Hid (Kept No w wr) := hkr
      clear hown hkr
      go_wp2_with (at_builtin; refine wpList_append_own_at _ rfl _ _ 27 rfl w.heap.size 3 i0 (.int .i64 0) 1 8 Tryz.underlying27 hi hz0 hz1 hz2 rfl (by decide) _ _ _ rfl ((HOW.out.alloc _).alloc _) ⟨wr.heap.size + 1, 0, none⟩ 1 1 [.int .i64 yp] rfl rfl (cell_one_at _ _ _ _ (by simp)) (one_one _ _) (by unfold maxLen; omega) (by omega) (by have := HKR.out.size; simp; omega) ?_; intro v1 w6 own1 grow1 _ at1)
      have HK6 : Hid (Kept No w w6 ∧ w6.ownsRow w.heap.size 3 1 v1 (k + 1) ((psP xs (k + 1)).map iv)) := by
        exact ⟨((HKR.out.alloc _).alloc _).grown grow1 (fun g e => .inr (HOW.out.lt g e).1), by rw [HNX.out]; exact own1⟩
      clear own1 grow1 at1
      go_wp2
      go_roundw
      case rel => exact ⟨k + 1, by omega, by go_num, HK6.out.1, HK6.out.2⟩
      case measure => simp [intOf]; omega
    · have hke : k = n := by omega
      subst hke
      obtain ⟨sa, sc, rfl, hrow⟩ := row_of wr w.heap.size 3 u4 xs k hown (fun i hi => by
        have hx : xs[i]? = some (xs.getD i ⟨0, 0, 0, 0⟩) := by rw [List.getD, List.getElem?_eq_getElem (by rw [H.out.len]; exact hi)]; rfl
        exact (H.out.at' i _ hx).1.1)
      have hc := lcmInt_any sa k sc (zP xs) 1048576 wr (by omega) (by unfold I64; omega) hrow
      have HKR : Hid (Kept No w wr) := hkr
      clear hown hkr hrow
      rw [← HZ1.out, ← HZ2.out] at hc
      go_wp2_with (go_at_call 168; refine hc.mono ?_; rintro e w2 ⟨rfl, nn, rfl⟩)
      go_ret2
      exact ⟨rfl, HKR.out.drewN _⟩
theorem eachF_none {r : Nat → Int} {first : Int} : ∀ {n : Nat}, eachF r first n = none → ∀ i, i < n → r i = 0
  | 0, _, i, hi => by omega
  | n + 1, h, i, hi => by
    rw [eachF] at h
    cases he : eachF r first n with
    | some p => rw [he] at h; cases h
    | none =>
      rw [he] at h
      rcases Nat.lt_or_eq_of_le (Nat.lt_succ_iff.1 hi) with h1 | h1
      · exact eachF_none he i h1
      · subst h1
        apply Decidable.byContradiction
        intro hn
        simp [hn] at h
theorem rowsF_zero {e : Nat → Int} : ∀ {m : Nat}, rowsF e m = 0 → ∀ j, j < m → e j = 0
  | 0, _, j, hj => by omega
  | m + 1, h, j, hj => by
    rw [rowsF] at h
    by_cases he : rowsF e m = 0
    · rw [if_pos he] at h
      rcases Nat.lt_or_eq_of_le (Nat.lt_succ_iff.1 hj) with h1 | h1
      · exact rowsF_zero he j h1
      · subst h1; exact h
    · rw [if_neg he] at h; exact absurd h he
theorem findF_none {xs : List Srv} {n : Nat} (h : findF xs n = none) : n ≤ 32 ∧ ∀ i, i < n → 1 ≤ zP xs i ∧ zP xs i ≤ 1048576 := by
  unfold findF at h
  by_cases h32 : n ≤ 32
  · rw [if_pos h32] at h
    refine ⟨h32, fun i hi => ?_⟩
    have := rowsF_zero (eachF_none h i hi) 0 (by omega)
    simp only [bS] at this
    by_cases hb : inB (xs.getD i ⟨0, 0, 0, 0⟩).p 1 1048576 = true
    · simp [inB] at hb; exact hb
    · rw [if_neg hb] at this; omega
  · rw [if_neg h32] at h; cases h

def relF (h : Int) (xs : List Srv) : Nat → Int
  | 0 => 0
  | k + 1 => relF h xs k + (2 * h) / zP xs k
theorem relF_bd {h : Int} {xs : List Srv} (h0 : 0 ≤ h) (h1 : h ≤ 1048576) : ∀ k, (∀ i, i < k → 1 ≤ zP xs i) → 0 ≤ relF h xs k ∧ relF h xs k ≤ k * 2097152
  | 0, _ => by simp [relF]
  | k + 1, hp => by
    have ih := relF_bd h0 h1 k (fun i hi => hp i (by omega))
    have hk := hp k (by omega)
    have d0 : 0 ≤ (2 * h) / zP xs k := Int.ediv_nonneg (by omega) (by omega)
    have d1 : (2 * h) / zP xs k ≤ 2 * h := Int.ediv_le_self _ (by omega)
    rw [relF]
    constructor
    · omega
    · push_cast; omega
theorem lcm_bd (xs : List Srv) (n : Nat) : 0 ≤ lcmV (zP xs) n 1048576 ∧ lcmV (zP xs) n 1048576 ≤ 1048576 := by
  obtain ⟨h0, h1, _⟩ := lcmV_facts (zP xs) n 1048576
  refine ⟨h0, ?_⟩
  by_cases h : 0 < lcmV (zP xs) n 1048576
  · exact (h1 h).1
  · omega

end Go.Proofs.YtggejpccjmolhaaGreatDoor
