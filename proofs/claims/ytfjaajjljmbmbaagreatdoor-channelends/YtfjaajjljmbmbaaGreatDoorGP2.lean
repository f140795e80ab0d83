/-
  One text: EPl, EHlp.
-/
import Derived.Test.YtfjaajjljmbmbaaGreatDoorCPts
import Derived.Test.YtfjaajjljmbmbaaGreatDoorCMaps
namespace Go.Proofs.YtfjaajjljmbmbaaGreatDoor
open Go.RowKit Plain
set_option linter.unusedVariables false
set_option linter.unusedSimpArgs false

def risesB (xs : List Int) : Bool := (List.range (xs.length - 1)).all fun i => decide (xs.getD i 0 < xs.getD (i + 1) 0)
theorem rises_of {xs : List Int} (h : xs.Pairwise (· < ·)) : risesB xs = true := by
  unfold risesB
  rw [List.all_eq_true]
  intro i hi
  have hi' : i < xs.length - 1 := by simpa using hi
  have h1 : i < xs.length := by omega
  have h2 : i + 1 < xs.length := by omega
  have := List.pairwise_iff_getElem.1 h i (i + 1) h1 h2 (by omega)
  simp [List.getD, h1, h2, this]

/-- the numbers of those that are such -/
def numsL (p : Ch → Bool) (L : List Ch) : List Int := (nm p L L.length).map fun (i : Nat) => (i : Int) + 1
theorem numsL_len (p : Ch → Bool) (L : List Ch) : (numsL p L).length = numsN p L := by unfold numsL; rw [List.length_map]
theorem numsL_eq (p : Ch → Bool) (L : List Ch) : ((List.range (numsN p L)).map (fun i => iv (numsV p L i))) = (numsL p L).map iv := by
  unfold numsL numsN numsV
  generalize nm p L L.length = l
  apply List.ext_getElem
  · simp
  · intro i h1 h2
    have : i < l.length := by simpa using h1
    simp [List.getD, this]
theorem numsL_rises (p : Ch → Bool) (L : List Ch) : risesB (numsL p L) = true := by
  apply rises_of
  unfold numsL nm
  rw [List.pairwise_map]
  refine List.Pairwise.imp (R := (· < ·)) (fun {a b} (h : a < b) => by omega) ?_
  exact List.Pairwise.filter _ List.pairwise_lt_range
theorem numsL_mem {p : Ch → Bool} {L : List Ch} {k : Nat} {x : Ch} (hx : L[k]? = some x) : (numsL p L).any (fun y => y == (k : Int) + 1) = p x := by
  have hk : k < L.length := (List.getElem?_eq_some_iff.1 hx).1
  have hn : isN p L k = p x := by unfold isN; rw [hx]; rfl
  cases hp : p x with
  | true =>
    rw [List.any_eq_true]
    refine ⟨(k : Int) + 1, ?_, by simp⟩
    unfold numsL nm
    rw [List.mem_map]
    exact ⟨k, List.mem_filter.2 ⟨List.mem_range.2 hk, by rw [hn, hp]⟩, rfl⟩
  | false =>
    rw [List.any_eq_false]
    intro y hy
    unfold numsL nm at hy
    rw [List.mem_map] at hy
    obtain ⟨i, hi, rfl⟩ := hy
    have h2 := (List.mem_filter.1 hi).2
    intro e
    have : i = k := by have : (i : Int) + 1 = (k : Int) + 1 := by simpa using e
                       omega
    subst this
    rw [hn, hp] at h2
    cases h2
theorem nums_below {p : Ch → Bool} {L : List Ch} (h : ∀ x, p x = false) : numsN p L = 0 := by
  unfold numsN nm
  rw [List.length_eq_zero_iff, List.filter_eq_nil_iff]
  intro i _
  unfold isN
  cases L[i]? with
  | none => simp
  | some x => simp [h x]

theorem cp_facts (d : Array Int) (hs : ∀ i j, i < j → j < d.size → d[i]! ≤ d[j]!) : ∀ m, m ≤ d.size → (Lib.compactUpTo d m).Pairwise (· < ·) ∧ (∀ x ∈ Lib.compactUpTo d m, ∃ j, j < m ∧ x = d[j]!) ∧ ∀ j, j < m → d[j]! ∈ Lib.compactUpTo d m
  | 0, _ => ⟨by simp [Lib.compactUpTo], by simp [Lib.compactUpTo], fun j hj => by omega⟩
  | m + 1, hm => by
    obtain ⟨h1, h2, h3⟩ := cp_facts d hs m (by omega)
    rw [Lib.compactUpTo_succ]
    by_cases hk : Lib.keeps d m = true
    · rw [if_pos hk]
      have hk' : m = 0 ∨ d[m]! ≠ d[m - 1]! := by simpa [Lib.keeps] using hk
      refine ⟨?_, ?_, ?_⟩
      · rw [List.pairwise_append]
        refine ⟨h1, by simp, fun x hx y hy => ?_⟩
        have hy' : y = d[m]! := by simpa using hy
        subst hy'
        obtain ⟨j, hj, rfl⟩ := h2 x hx
        rcases hk' with h0 | hne
        · omega
        · have e1 := hs (m - 1) m (by omega) (by omega)
          by_cases hj1 : j = m - 1
          · subst hj1; omega
          · have e2 := hs j (m - 1) (by omega) (by omega)
            omega
      · intro x hx
        rcases List.mem_append.1 hx with hx | hx
        · obtain ⟨j, hj, e⟩ := h2 x hx
          exact ⟨j, by omega, e⟩
        · exact ⟨m, by omega, by simpa using hx⟩
      · intro j hj
        by_cases e : j = m
        · subst e; exact List.mem_append_right _ (by simp)
        · exact List.mem_append_left _ (h3 j (by omega))
    · rw [if_neg hk, List.append_nil]
      have hk' : ¬ (m = 0 ∨ d[m]! ≠ d[m - 1]!) := by simpa [Lib.keeps] using hk
      have h0 : m ≠ 0 := fun e => hk' (.inl e)
      have he : d[m]! = d[m - 1]! := by
        apply Decidable.byContradiction
        intro hne
        exact hk' (.inr hne)
      refine ⟨h1, fun x hx => by obtain ⟨j, hj, e⟩ := h2 x hx; exact ⟨j, by omega, e⟩, fun j hj => ?_⟩
      by_cases e : j = m
      · subst e; rw [he]; exact h3 (j - 1) (by omega)
      · exact h3 j (by omega)
theorem sort_le (zs : List Int) : (sortL zs).Pairwise (· ≤ ·) := by
  have := List.pairwise_mergeSort (le := fun x y : Int => decide (x ≤ y)) (fun a b c h1 h2 => by simp at h1 h2 ⊢; omega) (fun a b => by simp; omega) zs
  unfold sortL
  exact this.imp (fun h => by simpa using h)
theorem compact_facts (zs : List Int) : (Lib.compact (sortL zs)).Pairwise (· < ·) ∧ ∀ x, x ∈ Lib.compact (sortL zs) ↔ x ∈ zs := by
  have hl := sort_le zs
  have hs : ∀ i j, i < j → j < (sortL zs).toArray.size → (sortL zs).toArray[i]! ≤ (sortL zs).toArray[j]! := by
    intro i j hij hj
    have hj' : j < (sortL zs).length := by simpa using hj
    have hi' : i < (sortL zs).length := by omega
    have := List.pairwise_iff_getElem.1 hl i j hi' hj' hij
    simpa [getElem!_pos, hi', hj'] using this
  obtain ⟨h1, h2, h3⟩ := cp_facts (sortL zs).toArray hs (sortL zs).length (by simp)
  refine ⟨h1, fun x => ?_⟩
  have hp : x ∈ sortL zs ↔ x ∈ zs := by unfold sortL; exact List.mem_mergeSort
  rw [← hp]
  constructor
  · intro hx
    obtain ⟨j, hj, e⟩ := h2 x hx
    rw [e]
    simp [getElem!_pos, hj]
  · intro hx
    obtain ⟨j, hj, e⟩ := List.getElem_of_mem hx
    have := h3 j hj
    simp [getElem!_pos, hj, e] at this
    exact this
theorem partsL_rises (ps : List Po) (ts : List Int) : risesB (partsL ps ts) = true := rises_of (compact_facts _).1
theorem partsL_any (ps : List Po) (ts : List Int) (v : Int) : (partsL ps ts).any (fun y => y == v) = (toL ps ts).any (fun y => y == v) := by
  unfold partsL
  have h := (compact_facts (toL ps ts)).2
  cases hb : (toL ps ts).any (fun y => y == v) with
  | true =>
    rw [List.any_eq_true] at hb ⊢
    obtain ⟨y, hy, e⟩ := hb
    exact ⟨y, (h y).2 hy, e⟩
  | false =>
    rw [List.any_eq_false] at hb ⊢
    intro y hy
    exact hb y ((h y).1 hy)
theorem partsL_nil (ps : List Po) : partsL ps [] = [0] := by
  have e : toL ps [] = [0] := by unfold toL; simp
  unfold partsL
  rw [e]
  unfold sortL
  rw [List.mergeSort_singleton]
  exact Lib.compact_all [0] (fun j hj => by
    have h0 : j = 0 := by simp at hj; omega
    subst h0
    rfl)
/-- the first of those that are such, where there is but one -/
theorem least_one {p : Ch → Bool} {L : List Ch} {k : Nat} {x : Ch} (hx : L[k]? = some x) (hp : p x = true) (hb : ∀ j y, j < k → L[j]? = some y → p y = false) : leastN p L = (k : Int) + 1 := by
  have hk : k < L.length := (List.getElem?_eq_some_iff.1 hx).1
  have hn : isN p L k = true := by unfold isN; rw [hx]; exact hp
  have h0 : nm p L k = [] := by
    unfold nm
    rw [List.filter_eq_nil_iff]
    intro j hj
    have hj' : j < k := List.mem_range.1 hj
    have hy : L[j]? = some L[j] := List.getElem?_eq_getElem (by omega)
    unfold isN
    rw [hy]
    simp [hb j _ hj' hy]
  have h1 := nm_at (n := L.length) hk hn
  rw [h0] at h1
  unfold leastN
  have h2 : (nm p L L.length).getD 0 0 = k := h1.1
  have h3 : 0 < (nm p L L.length).length := h1.2
  rw [if_neg (by omega), h2]
end Go.Proofs.YtfjaajjljmbmbaaGreatDoor

namespace Go.Proofs.YtfjaajjljmbmbaaGreatDoor
open Go.RowKit Plain
set_option linter.unusedVariables false
set_option linter.unusedSimpArgs false
set_option maxRecDepth 100000

theorem zs_cell {w : World} {F : Nat → Prop} {a : Option Addr} {n c : Nat} {xs : List Int} (h : Zs w F a n c xs) (k : Nat) (hk : k < n) : ∃ b o, a = some ⟨b, o, none⟩ ∧ w.cell? ⟨b, o + k, none⟩ = some (.int .i64 (xs.getD k 0)) := by
  obtain ⟨b, o, e, _, hc⟩ := h.at' k hk
  exact ⟨b, o, e, hc⟩
set_option maxHeartbeats 2000000 in
theorem in_any {F : Nat → Prop} {a : Option Addr} {n c : Nat} {xs : List Int} (v : Int) (w : World) (h : Zs w F a n c xs) :
    Calls Tryz.prog 10 #[.slice a n c, .int .i64 v] w fun e w' => e = .returned (.bool (xs.any (fun y => y == v))) ∧ Kept No w w' := by
  have hl := h.len
  have hm := h.max
  have hcap := h.cap
  have H : Hid (Zs w F a n c xs) := h
  clear h
  go_enter Tryz.func10, Tryz.ntmps10
  go_wp2
  go_loopw [5] (fun i wr => ∃ k : Nat, k ≤ n ∧ i = .int .i64 k ∧ wr = w ∧ (xs.take k).any (fun y => y == v) = false) (fun i _ => n - (intOf i).toNat)
  case atStart => exact ⟨0, by omega, rfl, rfl, by simp⟩
  case round =>
    obtain ⟨k, hk, rfl, rfl, hb⟩ := hrel
    by_cases hlt : k < n
    · obtain ⟨b, o, rfl, d⟩ := zs_cell H.out k hlt
      have hltz : (k : Int) < (n : Int) := by omega
      have hkl : k < xs.length := by omega
      have hst : (xs.take (k + 1)).any (fun y => y == v) = ((xs.take k).any (fun y => y == v) || (xs.getD k 0 == v)) := by
        rw [List.take_add_one, List.any_append, List.getElem?_eq_getElem hkl]
        simp [List.getD, hkl]
      have hall : xs.any (fun y => y == v) = ((xs.take (k + 1)).any (fun y => y == v) || (xs.drop (k + 1)).any (fun y => y == v)) := by rw [← List.any_append, List.take_append_drop]
      have HB : Hid ((xs.take k).any (fun y => y == v) = false ∧ (xs.take (k + 1)).any (fun y => y == v) = ((xs.take k).any (fun y => y == v) || (xs.getD k 0 == v)) ∧ xs.any (fun y => y == v) = ((xs.take (k + 1)).any (fun y => y == v) || (xs.drop (k + 1)).any (fun y => y == v))) := ⟨hb, hst, hall⟩
      clear hb hst hall
      obtain ⟨z, hz⟩ : ∃ z, xs.getD k 0 = z := ⟨_, rfl⟩
      rw [hz] at d HB
      clear hz
      by_cases hq : z = v
      · subst hq
        go_wp2
        go_ret
        exact ⟨by rw [HB.out.2.2, HB.out.2.1]; simp, Kept.refl _ _⟩
      · have hqb : (z == v) = false := by simpa using hq
        have HB2 : Hid ((xs.take (k + 1)).any (fun y => y == v) = false) := by show _ = false; rw [HB.out.2.1, HB.out.1, hqb]; rfl
        clear HB
        go_wp2
        go_roundw
        case rel => exact ⟨k + 1, by omega, by go_num, by first | rfl | trivial, HB2.out⟩
        case measure => simp [intOf]; omega
    · have hkn : k = n := by omega
      subst hkn
      have HB : Hid (xs.any (fun y => y == v) = false) := by rw [List.take_of_length_le (by omega)] at hb; exact hb
      clear hb
      go_wp2
      go_ret
      exact ⟨by rw [HB.out]; rfl, Kept.refl _ _⟩

set_option maxHeartbeats 2000000 in
theorem rising_any {F : Nat → Prop} {a : Option Addr} {n c : Nat} {xs : List Int} (w : World) (h : Zs w F a n c xs) (hr : risesB xs = true) :
    Calls Tryz.prog 7 #[.slice a n c] w fun e w' => e = .returned (.bool true) ∧ Kept No w w' := by
  have hl := h.len
  have hm := h.max
  have hcap := h.cap
  have hr2 : ∀ i, i + 1 < n → xs.getD i 0 < xs.getD (i + 1) 0 := fun i hi => by
    unfold risesB at hr
    rw [List.all_eq_true] at hr
    have := hr i (by simp; omega)
    simpa using this
  have H : Hid (Zs w F a n c xs ∧ ∀ i, i + 1 < n → xs.getD i 0 < xs.getD (i + 1) 0) := ⟨h, hr2⟩
  clear h hr hr2
  go_enter Tryz.func7, Tryz.ntmps7
  go_wp2
  go_loopw [3] (fun i wr => ∃ k : Nat, k ≤ n ∧ i = .int .i64 ((k : Int) + 1) ∧ Kept No w wr) (fun i _ => n + 1 - (intOf i).toNat)
  case atStart => exact ⟨0, by omega, rfl, Kept.refl _ _⟩
  case round =>
    obtain ⟨k, hk, rfl, K⟩ := hrel
    by_cases hlt : k + 1 < n
    · obtain ⟨b, o, rfl, d⟩ := zs_cell H.out.1 k (by omega)
      obtain ⟨b', o', e, d'⟩ := zs_cell H.out.1 (k + 1) hlt
      simp only [Option.some.injEq, Addr.mk.injEq, and_true] at e
      obtain ⟨rfl, rfl⟩ := e
      have hrr := H.out.2 k hlt
      replace d := K.cell d (fun h => h)
      replace d' := K.cell d' (fun h => h)
      have hltz : (k : Int) + 1 < (n : Int) := by omega
      obtain ⟨x, hx⟩ : ∃ x, xs.getD k 0 = x := ⟨_, rfl⟩
      obtain ⟨y, hy⟩ : ∃ y, xs.getD (k + 1) 0 = y := ⟨_, rfl⟩
      rw [hx] at d hrr
      rw [hy] at d' hrr
      have hny : ¬ y ≤ x := by omega
      have HK : Hid (Kept No w wr) := K
      clear K hx hy hrr
      have hlt' : ((k + 1 : Nat) : Int) < (n : Int) := by omega
      rw [show (k : Int) + 1 = ((k + 1 : Nat) : Int) by omega] at *
      go_upto_region 4 with fail
      have dz := (Kept.refl No wr).drew.cell d (fun h => h)
      have dz' := (Kept.refl No wr).drew.cell d' (fun h => h)
      have hw1 : IntKind.i64.wrap (((k + 1 : Nat) : Int) - 1) = (k : Int) := by rw [IntWalk.i64_in _ ⟨by omega, by omega⟩]; omega
      go_region
      have HK2 : Hid (Kept No w wr.drew) := HK.out.drew
      clear d d' dz dz' HK
      generalize wr.drew = w2 at *
      go_wp2
      go_roundw
      case rel => exact ⟨k + 1, by omega, by go_num, HK2.out⟩
      case measure => simp [intOf]; omega
    · have hlt' : ¬ ((k : Int) + 1) < (n : Int) := by omega
      have HK : Hid (Kept No w wr) := K
      clear K
      go_wp2
      go_ret
      exact ⟨rfl, HK.out⟩

set_option maxHeartbeats 2000000 in
theorem owner_any {F : Nat → Prop} {a0 a1 a2 : Option Addr} {n0 c0 n1 c1 n c : Nat} {ps : List Po} (t : Int) (w : World) (hq : Ls 6 elPo w F a1 n1 c1 ps) :
    Calls Tryz.prog 21 #[.agg #[.slice a0 n0 c0, .slice a1 n1 c1, .slice a2 n c], .int .i64 t] w fun e w' => e = .returned (.int .i64 (partV ps t)) ∧ Kept No w w' := by
  have hl := hq.len
  have hm := hq.max
  have hcap := hq.cap
  have HK : Hid (∀ o, Kept No w (w.alloc o)) := fun o => (Kept.refl No w).alloc o
  by_cases h1 : t < 1
  · rw [show partV ps t = 0 by unfold partV; rw [if_pos (.inl h1)]]
    clear hq
    go_enter Tryz.func21, Tryz.ntmps21
    go_wp2
    go_ret
    exact ⟨rfl, HK.out _⟩
  by_cases h2 : t > (n1 : Int)
  · rw [show partV ps t = 0 by unfold partV; rw [if_pos (.inr (by omega))]]
    clear hq
    go_enter Tryz.func21, Tryz.ntmps21
    go_wp2
    go_ret
    exact ⟨rfl, HK.out _⟩
  · obtain ⟨i, hi⟩ : ∃ i : Nat, t = i + 1 := ⟨(t - 1).toNat, by omega⟩
    subst hi
    have hin : i < n1 := by omega
    have hip : i < ps.length := by omega
    have hx : ps[i]? = some ps[i] := List.getElem?_eq_getElem hip
    obtain ⟨b, o, cs, rfl, hF, hcl, hr, rfl, hok⟩ := hq.at' i _ hx
    have r0 := (HK.out (.cells #[.slice a0 n0 c0, .slice (some ⟨b, o, none⟩) n1 c1, .slice a2 n c] 26)).cell (hr 0 _ rfl) (fun h => h)
    rw [Nat.add_zero] at r0
    have hp : partV ps ((i : Int) + 1) = ps[i].pt := by
      unfold partV
      rw [if_neg (by omega), show ((i : Int) + 1 - 1).toNat = i by omega, hx]
      rfl
    rw [hp]
    generalize ps[i].pt = P at *
    clear hq hr hok hx hp hF hcl
    have hiz : (i : Int) < (n1 : Int) := by omega
    go_enter Tryz.func21, Tryz.ntmps21
    go_wp2
    go_ret
    exact ⟨rfl, HK.out _⟩
end Go.Proofs.YtfjaajjljmbmbaaGreatDoor
