/-
  works: the two servers of the chapter.
-/
import Derived.Test.YticnkekedhhbaaaGreatDoorOAt
namespace Go.Proofs.YticnkekedhhbaaaGreatDoor
open Go.RowKit Go.Shelf Plain
set_option linter.unusedVariables false
set_option maxRecDepth 100000

namespace Rule
def stepRow (s : Sys) (r : Nat → Nat) (t i : Nat) : Nat := if rel s i t then s.B i else r i - (if pick s r s.n = i + 1 then 1 else 0)
theorem pick_congr (s : Sys) {r r' : Nat → Nat} (k : Nat) (h : ∀ i, i < k → r i = r' i) : pick s r k = pick s r' k := by
  induction k with
  | zero => rfl
  | succ k ih => unfold pick; rw [ih (fun i hi => h i (by omega)), h k (by omega)]
theorem tabled (s : Sys) (tb : Nat → Nat → Nat) (N : Nat) (h0 : ∀ i, i < s.n → tb 0 i = if rel s i 0 then s.B i else 0) (hs : ∀ t, t < N → ∀ i, i < s.n → tb (t + 1) i = stepRow s (tb t) (t + 1) i) :
    ∀ t, t ≤ N → ∀ i, i < s.n → rest s t i = tb t i := by
  intro t
  induction t with
  | zero => intro _ i hi; rw [h0 i hi]; rfl
  | succ t ih =>
    intro ht i hi
    have ih' := ih (by omega)
    rw [hs t (by omega) i hi, rest_succ]
    unfold stepRow
    have e : occ s t = pick s (tb t) s.n := pick_congr s s.n ih'
    rw [e, ih' i hi]
theorem tabled_occ (s : Sys) (tb : Nat → Nat → Nat) (N : Nat) (h : ∀ t, t ≤ N → ∀ i, i < s.n → rest s t i = tb t i) (t : Nat) (ht : t ≤ N) : occ s t = pick s (tb t) s.n := pick_congr s s.n (h t ht)
end Rule

def xs0 : List Srv := [⟨5, 2, 4, 9⟩, ⟨10, 6, 0, 1⟩]
def sy0 : Rule.Sys := ⟨2, fun i => [5, 10].getD i 0, fun i => [2, 6].getD i 0, fun i => [4, 0].getD i 0, fun i => [9, 1].getD i 0⟩
def tb0 (t i : Nat) : Nat := ([[0, 0, 0, 0, 2, 1, 0, 0, 0, 2, 1, 0, 0, 0, 2, 1, 0, 0, 0], [6, 5, 4, 3, 2, 2, 2, 1, 0, 0, 6, 6, 5, 4, 3, 3, 3, 2, 1]].getD i []).getD t 0
theorem tb0_all : ∀ t, t ≤ 18 → ∀ i, i < 2 → Rule.rest sy0 t i = tb0 t i := Rule.tabled sy0 tb0 18 (by decide +kernel) (by decide +kernel)
theorem occ18 : Rule.occ sy0 18 = 2 := by rw [Rule.tabled_occ sy0 tb0 18 tb0_all 18 (by omega)]; decide +kernel
theorem occ8 : Rule.occ sy0 8 = 0 := by rw [Rule.tabled_occ sy0 tb0 18 tb0_all 8 (by omega)]; decide +kernel
theorem occ4 : Rule.occ sy0 4 = 1 := by rw [Rule.tabled_occ sy0 tb0 18 tb0_all 4 (by omega)]; decide +kernel

theorem occ_of {s s' : Rule.Sys} (hn : s.n = s'.n) (hP : ∀ i, i < s.n → s.P i = s'.P i) (hB : ∀ i, i < s.n → s.B i = s'.B i) (hO : ∀ i, i < s.n → s.O i = s'.O i) (hq : ∀ i, i < s.n → s.pr i = s'.pr i) (t : Nat) : (∀ i, i < s.n → Rule.rest s t i = Rule.rest s' t i) ∧ Rule.occ s t = Rule.occ s' t := by
  have pk : ∀ (r r' : Nat → Nat) (k : Nat), k ≤ s.n → (∀ i, i < s.n → r i = r' i) → Rule.pick s r k = Rule.pick s' r' k := by
    intro r r' k hk hr
    induction k with
    | zero => rfl
    | succ k ih =>
      have ih' := ih (by omega)
      have hle := Rule.pick_le s' r' k
      unfold Rule.pick
      rw [ih', hr k (by omega), hq k (by omega)]
      by_cases h0 : Rule.pick s' r' k = 0
      · rw [h0]; simp
      · rw [hq (Rule.pick s' r' k - 1) (by omega)]
  have rl : ∀ i u, i < s.n → (Rule.rel s i u ↔ Rule.rel s' i u) := fun i u hi => by unfold Rule.rel; rw [hO i hi, hP i hi]
  have key : ∀ i, i < s.n → Rule.rest s t i = Rule.rest s' t i := by
    induction t with
    | zero =>
      intro i hi
      show (if Rule.rel s i 0 then s.B i else 0) = (if Rule.rel s' i 0 then s'.B i else 0)
      rw [hB i hi]
      by_cases h : Rule.rel s' i 0
      · rw [if_pos h, if_pos ((rl i 0 hi).2 h)]
      · rw [if_neg h, if_neg (fun h' => h ((rl i 0 hi).1 h'))]
    | succ t ih =>
      intro i hi
      have e : Rule.occ s t = Rule.occ s' t := by
        show Rule.pick s _ s.n = Rule.pick s' _ s'.n
        rw [← hn]
        exact pk _ _ s.n (Nat.le_refl _) ih
      rw [Rule.rest_succ, Rule.rest_succ, hB i hi, ih i hi, e]
      by_cases h : Rule.rel s' i (t + 1)
      · rw [if_pos h, if_pos ((rl i (t + 1) hi).2 h)]
      · rw [if_neg h, if_neg (fun h' => h ((rl i (t + 1) hi).1 h'))]
  refine ⟨key, ?_⟩
  show Rule.pick s _ s.n = Rule.pick s' _ s'.n
  rw [← hn]
  exact pk _ _ s.n (Nat.le_refl _) key

theorem sys0 (t : Nat) : Rule.occ (sys xs0) t = Rule.occ sy0 t := by
  refine (occ_of (s := sys xs0) (s' := sy0) rfl ?_ ?_ ?_ ?_ t).2
  all_goals decide +kernel
theorem tim0 : timF xs0 xs0.length = none := by decide +kernel

theorem sv0' {W : World} {g : Nat} (hb : W.heap[g]? = some (.cells #[.int .i64 5, .int .i64 2, .int .i64 4, .int .i64 9, .int .i64 10, .int .i64 6, .int .i64 0, .int .i64 1] 25)) : Sv W (fun k => k = g) (some ⟨g, 0, none⟩) xs0.length 2 xs0 := by
  refine ⟨rfl, Nat.le_refl _, by omega, (fun h => by cases h), fun i x hx => ?_⟩
  match i, hx with
  | 0, hx =>
    have hx' : x = ⟨5, 2, 4, 9⟩ := by simpa [xs0] using hx.symm
    subst hx'
    refine ⟨⟨by constructor <;> decide, by constructor <;> decide, by constructor <;> decide, by constructor <;> decide⟩, g, 0, rfl, rfl, ?_, ?_, ?_, ?_⟩ <;> simp [World.cell?, hb]
  | 1, hx =>
    have hx' : x = ⟨10, 6, 0, 1⟩ := by simpa [xs0] using hx.symm
    subst hx'
    refine ⟨⟨by constructor <;> decide, by constructor <;> decide, by constructor <;> decide, by constructor <;> decide⟩, g, 0, rfl, rfl, ?_, ?_, ?_, ?_⟩ <;> simp [World.cell?, hb]
  | i + 2, hx => simp [xs0] at hx
theorem sv0 (w : World) : Sv (w.alloc (.cells #[.int .i64 5, .int .i64 2, .int .i64 4, .int .i64 9, .int .i64 10, .int .i64 6, .int .i64 0, .int .i64 1] 25)) (fun k => k = w.heap.size) (some ⟨w.heap.size, 0, none⟩) xs0.length 2 xs0 := sv0' (World.alloc_heap_new _ _)

set_option maxHeartbeats 1000000 in
theorem works_any (w : World) (hg : Gl w) : Calls Tryz.prog 9 #[] w fun e w' => e = .returned (.bool true) ∧ Kept No w w' := by
  have k1 : Kept No w (w.alloc (.cells #[.int .i64 5, .int .i64 2, .int .i64 4, .int .i64 9, .int .i64 10, .int .i64 6, .int .i64 0, .int .i64 1] 25)) := (Kept.refl No w).alloc _
  have hc : ∀ (t : Nat) W, t < 1099511627776 → Kept No (w.alloc (.cells #[.int .i64 5, .int .i64 2, .int .i64 4, .int .i64 9, .int .i64 10, .int .i64 6, .int .i64 0, .int .i64 1] 25)) W → Calls Tryz.prog 11 #[.slice (some ⟨w.heap.size, 0, none⟩) 2 2, .int .i64 t] W fun e w' => e = .returned (.tuple #[.int .i64 (Rule.occ (sys xs0) t), .int .i64 0]) ∧ Kept No W w' := fun t W ht hk =>
    at_yes (xs := xs0) t W ((hg.kept k1).kept hk) ((sv0 w).keep hk) (fun k hk' => by have hk'' : k = w.heap.size := hk'; have := hk.size; simp at this; omega) tim0 ht
  have h18 := fun W hk => hc 18 W (by omega) hk
  have h8 := fun W hk => hc 8 W (by omega) hk
  have h4 := fun W hk => hc 4 W (by omega) hk
  rw [sys0, occ18] at h18
  rw [sys0, occ8] at h8
  rw [sys0, occ4] at h4
  have HK1 : Hid (Kept No w (w.alloc (.cells #[.int .i64 5, .int .i64 2, .int .i64 4, .int .i64 9, .int .i64 10, .int .i64 6, .int .i64 0, .int .i64 1] 25))) := k1
  have H18 : Hid (∀ W, Kept No (w.alloc (.cells #[.int .i64 5, .int .i64 2, .int .i64 4, .int .i64 9, .int .i64 10, .int .i64 6, .int .i64 0, .int .i64 1] 25)) W → Calls Tryz.prog 11 #[.slice (some ⟨w.heap.size, 0, none⟩) 2 2, .int .i64 18] W fun e w' => e = .returned (.tuple #[.int .i64 2, .int .i64 0]) ∧ Kept No W w') := h18
  have H8 : Hid (∀ W, Kept No (w.alloc (.cells #[.int .i64 5, .int .i64 2, .int .i64 4, .int .i64 9, .int .i64 10, .int .i64 6, .int .i64 0, .int .i64 1] 25)) W → Calls Tryz.prog 11 #[.slice (some ⟨w.heap.size, 0, none⟩) 2 2, .int .i64 8] W fun e w' => e = .returned (.tuple #[.int .i64 0, .int .i64 0]) ∧ Kept No W w') := h8
  have H4 : Hid (∀ W, Kept No (w.alloc (.cells #[.int .i64 5, .int .i64 2, .int .i64 4, .int .i64 9, .int .i64 10, .int .i64 6, .int .i64 0, .int .i64 1] 25)) W → Calls Tryz.prog 11 #[.slice (some ⟨w.heap.size, 0, none⟩) 2 2, .int .i64 4] W fun e w' => e = .returned (.tuple #[.int .i64 1, .int .i64 0]) ∧ Kept No W w') := h4
  clear hc h18 h8 h4 k1 hg
  go_enter Tryz.func9, Tryz.ntmps9
  go_upto_region 2 with fail
  generalize w.alloc (.cells #[.int .i64 5, .int .i64 2, .int .i64 4, .int .i64 9, .int .i64 10, .int .i64 6, .int .i64 0, .int .i64 1] 25) = w1 at *
  have c18 := H18.out w1 (Kept.refl No w1)
  go_upto_region 3 with (go_at_call 11; refine c18.mono ?_; rintro e w2 ⟨rfl, k2⟩; have K2 : Hid (Kept No w1 w2) := k2; clear k2 c18)
  have c8 := H8.out w2 K2.out
  go_upto_region 4 with (go_at_call 11; refine c8.mono ?_; rintro e w3 ⟨rfl, k3⟩; have K3 : Hid (Kept No w1 w3) := K2.out.trans k3 (fun _ h => h.elim); clear k3 c8)
  have c4 := H4.out w3 K3.out
  go_wp2_with (go_at_call 11; refine c4.mono ?_; rintro e w4 ⟨rfl, k4⟩; have K4 : Hid (Kept No w1 w4) := K3.out.trans k4 (fun _ h => h.elim); clear k4 c4)
  go_ret
  exact ⟨rfl, HK1.out.trans K4.out (fun _ h => h.elim)⟩
end Go.Proofs.YticnkekedhhbaaaGreatDoor
