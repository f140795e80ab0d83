/-
  firstBelow.
-/
import Derived.Test.YteiakmjdjaodlaaRSmall
import Derived.Shelf.SlSortCmp.QuietGrown
namespace Go.Proofs.Yteiakmjdjaodlaa
open Go.RowKit Go.Shelf Go.Sort
set_option linter.unusedVariables false

def fb (H : List En) (k : Nat) : Nat := if H.length ≤ 2 * k + 1 then k else if 2 * k + 2 < H.length ∧ lt' (hd H (2 * k + 2)) (hd H (2 * k + 1)) then 2 * k + 2 else 2 * k + 1
theorem follows_mixed : Try.prog.follows .mixedOrders = true := by kernel_rfl
theorem below_grow (w : World) (n : Nat) (os : Array Obj) : Below w.heap.size w (grow (w.drewN n) os) :=
  ⟨rfl, rfl, rfl, by simp [grow, World.drewN], fun k hk => by simp [grow, World.drewN, Array.getElem?_append, hk]⟩

section
variable {w : World} {b mb c nx mo : Nat} {v : Value} {H : List En} {M : Int → Option Int}
theorem Ol.grown (h : Ol w b mb v H M c nx mo) (n : Nat) (os : Array Obj) : Ol (grow (w.drewN n) os) b mb v H M c nx mo := h.below (below_grow w n os)

set_option maxHeartbeats 1000000 in
theorem firstBelow_any (h : Ol w b mb v H M c nx mo) (k : Nat) (hk : k ≤ 1000000) (hH : H.length ≤ 1000000) : Calls Try.prog 43 #[.pointer (some ⟨b, 0, none⟩), .int .i64 k] w fun ex w' => ex = .returned (.int .i64 (fb H k)) ∧ Below w.heap.size w w' := by
  have cC := count_any h
  have HW : Hid (Ol w b mb v H M c nx mo) := h
  unfold fb
  by_cases h1 : H.length ≤ 2 * k + 1
  · rw [if_pos h1]
    clear h
    generalize H.length = n at *
    have h1' : ((2 * k + 1 : Int) ≥ (n : Int)) := by omega
    go_enter Try.func43, Try.ntmps43
    go_wp2_with (go_at_call 20; refine cC.mono ?_; rintro ex w1 ⟨rfl, rfl⟩)
    go_ret
    exact ⟨rfl, Below.refl _ _⟩
  rw [if_neg h1]
  by_cases h2 : 2 * k + 2 < H.length
  · obtain ⟨g, cap, rfl, a1, a2, _⟩ := h.get (k := 2 * k + 1) (by omega)
    have r0 := fun n os => (h.grown n os).heap
    have hg := fun n os => (h.grown n os).get (k := 2 * k + 1) (by omega)
    have hg2 := fun n os => (h.grown n os).get (k := 2 * k + 2) (by omega)
    have s0 : ∀ n os, (grow (w.drewN n) os).cell? ⟨g, (2 * k + 1) * 3, none⟩ = some (.int .i64 (hd H (2 * k + 1)).id) := fun n os => by obtain ⟨g', cap', e, _, _, h3, _⟩ := hg n os; injection e with e; injection e with e; injection e with e; subst e; exact h3
    have s1 : ∀ n os, (grow (w.drewN n) os).cell? ⟨g, (2 * k + 1) * 3 + 1, none⟩ = some (.int .i64 (hd H (2 * k + 1)).pr) := fun n os => by obtain ⟨g', cap', e, _, _, _, h3, _⟩ := hg n os; injection e with e; injection e with e; injection e with e; subst e; exact h3
    have s2 : ∀ n os, (grow (w.drewN n) os).cell? ⟨g, (2 * k + 1) * 3 + 2, none⟩ = some (.int .i64 (hd H (2 * k + 1)).pl) := fun n os => by obtain ⟨g', cap', e, _, _, _, _, h3, _⟩ := hg n os; injection e with e; injection e with e; injection e with e; subst e; exact h3
    have t0 : ∀ n os, (grow (w.drewN n) os).cell? ⟨g, (2 * k + 2) * 3, none⟩ = some (.int .i64 (hd H (2 * k + 2)).id) := fun n os => by obtain ⟨g', cap', e, _, _, h3, _⟩ := hg2 n os; injection e with e; injection e with e; injection e with e; subst e; exact h3
    have t1 : ∀ n os, (grow (w.drewN n) os).cell? ⟨g, (2 * k + 2) * 3 + 1, none⟩ = some (.int .i64 (hd H (2 * k + 2)).pr) := fun n os => by obtain ⟨g', cap', e, _, _, _, h3, _⟩ := hg2 n os; injection e with e; injection e with e; injection e with e; subst e; exact h3
    have t2 : ∀ n os, (grow (w.drewN n) os).cell? ⟨g, (2 * k + 2) * 3 + 2, none⟩ = some (.int .i64 (hd H (2 * k + 2)).pl) := fun n os => by obtain ⟨g', cap', e, _, _, _, _, h3, _⟩ := hg2 n os; injection e with e; injection e with e; injection e with e; subst e; exact h3
    have cQ : ∀ n os, Calls Try.prog 20 #[.pointer (some ⟨b, 0, none⟩)] (grow (w.drewN n) os) fun ex w' => ex = .returned (.int .i64 H.length) ∧ w' = grow (w.drewN n) os := fun n os => count_any (h.grown n os)
    have cE := fun W' => compare_any (hd H (2 * k + 2)) (hd H (2 * k + 1)) W'
    have HC : Hid (cmpE (hd H (2 * k + 2)) (hd H (2 * k + 1)) < 0 ↔ lt' (hd H (2 * k + 2)) (hd H (2 * k + 1))) := cmpE_lt
    unfold En.v at cE
    generalize cmpE (hd H (2 * k + 2)) (hd H (2 * k + 1)) = r at cE HC
    generalize hd H (2 * k + 2) = y at *
    generalize hd H (2 * k + 1) = x at *
    clear h hg hg2
    generalize H.length = n at *
    have hm := follows_mixed
    have g1 : decide ((2 * (k : Int) + 2) < (n : Int)) = true := decide_eq_true (by omega)
    have g2 : decide ((n : Int) ≤ (2 * (k : Int) + 1)) = false := decide_eq_false (by omega)
    have HF : Hid ((if 2 * k + 2 < n ∧ lt' y x then 2 * k + 2 else 2 * k + 1) = if r < 0 then 2 * k + 2 else 2 * k + 1) := (by
      show _ = _
      by_cases h3 : r < 0
      · rw [if_pos ⟨h2, HC.out.1 h3⟩, if_pos h3]
      · rw [if_neg (fun e => h3 (HC.out.2 e.2)), if_neg h3])
    rw [HF.out]
    clear HC HF
    have E1 : Hid (2 * (k : Int) + 1 = ((2 * k + 1 : Nat) : Int)) := (by show _ = _; omega)
    have E2 : Hid (2 * (k : Int) + 2 = ((2 * k + 2 : Nat) : Int)) := (by show _ = _; omega)
    have h1' : 2 * k + 1 < n := by omega
    go_enter Try.func43, Try.ntmps43
    go_upto_region 4 with (go_at_call 20; refine cC.mono ?_; rintro ex w1 ⟨rfl, rfl⟩)
    rw [E1.out, E2.out]
    rw [E2.out] at g1
    rw [E1.out] at g2
    clear h1
    generalize 2 * k + 1 = m1 at *
    generalize 2 * k + 2 = m2 at *
    go_quiet_grown (first
        | (go_at_call 20; exact (cQ _ _).mono fun _ _ ⟨he, hw⟩ => ⟨he, ⟨_, _⟩, hw⟩)
        | (go_at_call 35; exact Calls.grown_of (cE _)))
    by_cases h3 : r < 0
    · go_wp2
      go_ret
      exact ⟨by rw [E2.out]; rfl, below_grow _ _ _⟩
    · go_wp2
      go_ret
      exact ⟨by rw [E1.out]; rfl, below_grow _ _ _⟩
  · rw [if_neg (fun e => h2 e.1)]
    have cQ : ∀ n, Calls Try.prog 20 #[.pointer (some ⟨b, 0, none⟩)] (w.drewN n) fun ex w' => ex = .returned (.int .i64 H.length) ∧ w' = w.drewN n := fun n => count_any (h.drewN n)
    clear h
    generalize H.length = n at *
    have g1 : decide ((2 * (k : Int) + 2) < (n : Int)) = false := decide_eq_false (by omega)
    have g2 : decide ((n : Int) ≤ (2 * (k : Int) + 1)) = false := decide_eq_false (by omega)
    go_enter Try.func43, Try.ntmps43
    go_upto_region 4 with (go_at_call 20; refine cC.mono ?_; rintro ex w1 ⟨rfl, rfl⟩)
    go_quiet ((go_at_call 20; exact Calls.quiet_of_same (cQ _)))
    go_wp2
    go_ret
    exact ⟨rfl, ⟨rfl, rfl, rfl, Nat.le_refl _, fun _ _ => rfl⟩⟩
end

end Go.Proofs.Yteiakmjdjaodlaa
