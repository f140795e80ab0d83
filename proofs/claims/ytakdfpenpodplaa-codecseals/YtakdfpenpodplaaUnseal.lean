/-
  Unseal.
-/
import Derived.Test.YtakdfpenpodplaaSeal
namespace Go.Proofs.Ytakdfpenpodplaa
open Go.RowKit
set_option linter.unusedVariables false

def inner (xs : List Nat) : List Nat := (xs.drop 8).take (xs.length - 12)
def unsOk (kind : Nat) (xs : List Nat) : Bool := decide (12 ≤ xs.length) && decide (xs.length ≤ 4194316) && decide (sealed kind (inner xs) = xs)
def unsX (kind : Nat) (xs : List Nat) : List Nat := if unsOk kind xs then inner xs else []
def unsE (kind : Nat) (xs : List Nat) : Int := if 4194316 < xs.length then 1 else if unsOk kind xs then 0 else 20

set_option maxHeartbeats 2000000 in
theorem unseal_any (G : Nat → Prop) (kind : Nat) (a : Option Addr) (n c : Nat) (xs : List Nat) (w : World) (hk : kind < 256) (h : Bs w G a n c xs) :
    Calls Try.prog 11 #[.int .u8 kind, .slice a n c] w fun ex w' => ∃ a' n' c', ex = .returned (.tuple #[.slice a' n' c', .int .i64 (unsE kind xs)]) ∧ w'.ownsRow w.heap.size 5 1 (.slice a' n' c') (unsX kind xs).length ((unsX kind xs).map bv) ∧ Below w.heap.size w w' := by
  have hl := h.len
  have hcap := h.cap
  have HB : Hid (Bs w G a n c xs) := h
  clear h
  by_cases hn : 4194316 < n
  · have k1 : unsOk kind xs = false := by unfold unsOk; rw [decide_eq_false (show ¬ xs.length ≤ 4194316 by omega)]; simp
    rw [show unsX kind xs = [] from by simp [unsX, k1], show unsE kind xs = 1 from if_pos (by omega)]
    clear k1
    go_enter Try.func11, Try.ntmps11
    go_wp2
    go_ret2
    exact ⟨none, 0, 0, rfl, World.ownsRow_nil _ _ _ _, Below.refl _ _⟩
  · by_cases hn2 : n < 12
    · have k1 : unsOk kind xs = false := by unfold unsOk; rw [decide_eq_false (show ¬ 12 ≤ xs.length by omega)]; simp
      rw [show unsX kind xs = [] from by simp [unsX, k1], show unsE kind xs = 20 from by unfold unsE; rw [if_neg (by omega), k1]; rfl]
      clear k1
      go_enter Try.func11, Try.ntmps11
      go_wp2
      go_ret2
      exact ⟨none, 0, 0, rfl, World.ownsRow_nil _ _ _ _, Below.refl _ _⟩
    · obtain ⟨bk, o, rfl, hGb, _⟩ := HB.out.at' 0 (by omega)
      have hBi : Bs w G (some ⟨bk, o + 8, none⟩) (n - 4 - 8) (c - 8) (inner xs) := by
        have h1 := (HB.out.drop 8 (by omega) ⟨bk, o + 8, none⟩ (fun _ => by rw [add_none])).take (n - 4 - 8) (by omega)
        unfold inner; rw [hl, show n - 12 = n - 4 - 8 from by omega]; exact h1
      have e1 : unsE kind xs = if sealed kind (inner xs) = xs then 0 else 20 := by
        unfold unsE unsOk; rw [if_neg (by omega), decide_eq_true (show 12 ≤ xs.length by omega), decide_eq_true (show xs.length ≤ 4194316 by omega)]; simp
      have e2 : unsX kind xs = if sealed kind (inner xs) = xs then inner xs else [] := by
        unfold unsX unsOk; rw [decide_eq_true (show 12 ≤ xs.length by omega), decide_eq_true (show xs.length ≤ 4194316 by omega)]; simp
      have c9 := seal_any G kind _ _ _ _ w hk hBi
      have hil : (inner xs).length = n - 4 - 8 := hBi.len
      have e3 : sealX kind (inner xs) = sealed kind (inner xs) := if_neg (by omega)
      have e4 : sealE (inner xs) = 0 := if_neg (by omega)
      rw [e3, e4] at c9
      have hne : ¬ (c = 8) := by omega
      have HBI : Hid (Bs w G (some ⟨bk, o + 8, none⟩) (n - 4 - 8) (c - 8) (inner xs)) := hBi
      clear e3 e4 hBi
      by_cases hq : sealed kind (inner xs) = xs
      · rw [if_pos hq] at e1 e2
        rw [e1, e2]
        have HQ : Hid (sealed kind (inner xs) = xs) := hq
        clear hq e1 e2
        go_enter Try.func11, Try.ntmps11
        go_upto_region 6 with fail
        go_upto_region 7 with (go_at_call 9; refine c9.mono ?_; rintro ex w1 ⟨a1, n1, k1, rfl, own1, bel1⟩)
        have hlt : ∀ x ∈ sealed kind (inner xs), x < 256 := by
          intro x hx
          unfold sealed sealHead at hx
          simp only [List.mem_append] at hx
          rcases hx with ((hx | hx) | hx) | hx
          · simp at hx; omega
          · exact be_lt _ _ x hx
          · exact HBI.out.lt x hx
          · unfold le at hx; rw [List.mem_map] at hx; obtain ⟨i, _, rfl⟩ := hx; exact Nat.mod_lt _ (by decide)
        obtain ⟨g1, m1, hv1, hB1⟩ := Bs.of_owns own1 hlt
        obtain ⟨rfl, rfl, rfl⟩ : a1 = g1 ∧ n1 = (sealed kind (inner xs)).length ∧ k1 = m1 := by injection hv1 with h1 h2 h3; exact ⟨h1, h2, h3⟩
        have c51 := equal_any _ _ _ _ _ _ _ _ _ _ w1 hB1 (HB.out.below bel1)
        have c52 := clone_any _ _ _ _ _ w1 (HBI.out.below bel1) (by omega)
        clear hv1 hB1 own1 c9 hlt
        rw [decide_eq_true HQ.out] at c51
        go_wp2_with (first | (go_at_call 51; refine c51.mono ?_; rintro ex w2 ⟨rfl, hw⟩; obtain rfl := hw.symm) | (go_at_call 52; refine c52.mono ?_; rintro ex w2 ⟨v2, rfl, own2, bel2⟩))
        go_ret2
        obtain ⟨g2, m2, hv2, _⟩ := Bs.of_owns own2 HBI.out.lt
        subst hv2
        exact ⟨g2, _, m2, rfl, owns_base own2 bel1.size, bel1.trans (bel2.mono bel1.size)⟩
      · rw [if_neg hq] at e1 e2
        rw [e1, e2]
        have HQ : Hid (¬ sealed kind (inner xs) = xs) := hq
        clear hq e1 e2
        go_enter Try.func11, Try.ntmps11
        go_upto_region 6 with fail
        go_upto_region 7 with (go_at_call 9; refine c9.mono ?_; rintro ex w1 ⟨a1, n1, k1, rfl, own1, bel1⟩)
        have hlt : ∀ x ∈ sealed kind (inner xs), x < 256 := by
          intro x hx
          unfold sealed sealHead at hx
          simp only [List.mem_append] at hx
          rcases hx with ((hx | hx) | hx) | hx
          · simp at hx; omega
          · exact be_lt _ _ x hx
          · exact HBI.out.lt x hx
          · unfold le at hx; rw [List.mem_map] at hx; obtain ⟨i, _, rfl⟩ := hx; exact Nat.mod_lt _ (by decide)
        obtain ⟨g1, m1, hv1, hB1⟩ := Bs.of_owns own1 hlt
        obtain ⟨rfl, rfl, rfl⟩ : a1 = g1 ∧ n1 = (sealed kind (inner xs)).length ∧ k1 = m1 := by injection hv1 with h1 h2 h3; exact ⟨h1, h2, h3⟩
        have c51 := equal_any _ _ _ _ _ _ _ _ _ _ w1 hB1 (HB.out.below bel1)
        have c52 := clone_any _ _ _ _ _ w1 (HBI.out.below bel1) (by omega)
        clear hv1 hB1 own1 c9 hlt
        rw [decide_eq_false HQ.out] at c51
        go_wp2_with (first | (go_at_call 51; refine c51.mono ?_; rintro ex w2 ⟨rfl, hw⟩; obtain rfl := hw.symm))
        go_ret2
        exact ⟨none, 0, 0, rfl, World.ownsRow_nil _ _ _ _, bel1⟩

end Go.Proofs.Ytakdfpenpodplaa
