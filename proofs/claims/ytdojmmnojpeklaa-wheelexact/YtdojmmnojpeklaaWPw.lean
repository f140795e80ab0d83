/-
  Two wheels side by side.
-/
import Derived.Test.YtdojmmnojpeklaaWForgP
namespace Go.Proofs.Ytdojmmnojpeklaa
open Go.RowKit
set_option linter.unusedVariables false

def Pw (W w : World) (b1 b2 n1 n2 : Nat) (L1 L2 : List Fi) : Prop :=
  ∃ F1 F2, Wh w F1 b1 n1 L1 ∧ Wh w F2 b2 n2 L2 ∧ (∀ k, F1 k → ¬ F2 k) ∧ (∀ k, F1 k → W.heap.size ≤ k) ∧ (∀ k, F2 k → W.heap.size ≤ k) ∧ Below W.heap.size W w
namespace Pw
variable {W w w' : World} {b1 b2 n1 n2 : Nat} {L1 L2 : List Fi}
theorem bel (h : Pw W w b1 b2 n1 n2 L1 L2) : Below W.heap.size W w := by obtain ⟨_, _, _, _, _, _, _, h⟩ := h; exact h
theorem below (h : Pw W w b1 b2 n1 n2 L1 L2) (k : Below w.heap.size w w') : Pw W w' b1 b2 n1 n2 L1 L2 := by
  obtain ⟨F1, F2, h1, h2, h3, h4, h5, h6⟩ := h
  exact ⟨F1, F2, h1.below k, h2.below k, h3, h4, h5, h6.trans (k.mono h6.size)⟩
theorem swap (h : Pw W w b1 b2 n1 n2 L1 L2) : Pw W w b2 b1 n2 n1 L2 L1 := by
  obtain ⟨F1, F2, h1, h2, h3, h4, h5, h6⟩ := h
  exact ⟨F2, F1, h2, h1, fun k hk hn => h3 k hn hk, h5, h4, h6⟩
/-- the first was turned -/
theorem one {F1 F2 : Nat → Prop} {m : Nat} {L : List Fi} (h2 : Wh w F2 b2 n2 L2) (h3 : ∀ k, F1 k → ¬ F2 k) (h4 : ∀ k, F1 k → W.heap.size ≤ k) (h5 : ∀ k, F2 k → W.heap.size ≤ k) (h6 : Below W.heap.size W w) {F' : Nat → Prop} (g1 : Wh w' F' b1 m L) (g2 : Kept F1 w w') (g3 : ∀ k, F' k → F1 k ∨ w.heap.size ≤ k) : Pw W w' b1 b2 m n2 L L2 := by
  have hs := h6.size
  refine ⟨F', fun k => F2 k ∧ k < w.heap.size, g1, h2.bound.kept g2 (fun j hj hf => h3 j hf hj.1), fun k hk hn => ?_, fun k hk => ?_, fun k hk => h5 k hk.1, h6.trans (g2.below (fun k hk => h4 k hk) hs)⟩
  · rcases g3 k hk with h | h
    · exact h3 k h hn.1
    · exact absurd hn.2 (by omega)
  · rcases g3 k hk with h | h
    · exact h4 k h
    · omega
theorem arm (h : Pw W w b1 b2 n1 n2 L1 L2) (x : Fi) : Calls Try.prog 9 #[.pointer (some ⟨b1, 0, none⟩), .int .i64 x.i, .int .i64 x.t] w fun ex w' => ex = .returned (.int .i64 (if Ok n1 x then 0 else 2)) ∧ Pw W w' b1 b2 n1 n2 (armF n1 L1 x) L2 := by
  obtain ⟨F1, F2, h1, h2, h3, h4, h5, h6⟩ := h
  refine (arm_wh h1 x).mono ?_
  rintro ex w' ⟨rfl, F', g1, g2, g3⟩
  exact ⟨rfl, one h2 h3 h4 h5 h6 g1 g2 g3⟩
theorem cancel (h : Pw W w b1 b2 n1 n2 L1 L2) (x : Int) (hx : I6 x) : Calls Try.prog 11 #[.pointer (some ⟨b1, 0, none⟩), .int .i64 x] w fun ex w' => ex = .returned (.bool (tickOf L1 x).isSome) ∧ Pw W w' b1 b2 n1 n2 (rem x L1) L2 := by
  obtain ⟨F1, F2, h1, h2, h3, h4, h5, h6⟩ := h
  refine (cancel_wh h1 x hx).mono ?_
  rintro ex w' ⟨rfl, F', g1, g2, g3⟩
  exact ⟨rfl, one h2 h3 h4 h5 h6 g1 g2 g3⟩
theorem when (h : Pw W w b1 b2 n1 n2 L1 L2) (x : Int) (hx : I6 x) : Calls Try.prog 7 #[.pointer (some ⟨b1, 0, none⟩), .int .i64 x] w fun ex w' => ex = .returned (.tuple #[.int .i64 ((tickOf L1 x).getD 0), .bool (tickOf L1 x).isSome]) ∧ Pw W w' b1 b2 n1 n2 L1 L2 := by
  have hh := h
  obtain ⟨F1, F2, h1, h2, h3, h4, h5, h6⟩ := h
  refine (when_wh h1 x hx).mono ?_
  rintro ex w' ⟨rfl, hb⟩
  exact ⟨rfl, hh.below hb⟩
theorem len (h : Pw W w b1 b2 n1 n2 L1 L2) : Calls Try.prog 8 #[.pointer (some ⟨b1, 0, none⟩)] w fun ex w' => ex = .returned (.int .i64 L1.length) ∧ w' = w := by
  obtain ⟨F1, F2, h1, h2, h3, h4, h5, h6⟩ := h
  exact len_wh h1
theorem ok (h : Pw W w b1 b2 n1 n2 L1 L2) : ∀ x, x ∈ L1 → Ok n1 x := by obtain ⟨F1, F2, h1, _⟩ := h; exact h1.ok
end Pw
/-- one wheel, and what the other told -/
def Pq (W w : World) (b2 n2 : Nat) (L2 : List Fi) (v : Value) (T : List Fi) : Prop :=
  ∃ F2, Wh w F2 b2 n2 L2 ∧ w.ownsRow W.heap.size 32 2 v T.length (fcL T) ∧ (∀ g, v.ownBlock = some g → ¬ F2 g) ∧ (∀ k, F2 k → W.heap.size ≤ k) ∧ Below W.heap.size W w
theorem Pw.adv {W w : World} {b1 b2 n1 n2 : Nat} {L1 L2 : List Fi} (h : Pw W w b1 b2 n1 n2 L1 L2) : Calls Try.prog 12 #[.pointer (some ⟨b1, 0, none⟩), .int .i64 1099511627776] w fun ex w' => ∃ v, ex = .returned (.tuple #[v, .int .i64 0]) ∧ Pq W w' b2 n2 L2 v L1 := by
  obtain ⟨F1, F2, h1, h2, h3, h4, h5, h6⟩ := h
  have hok := h1.ok
  have hn := h1.1
  have hs := h6.size
  refine (advance_yes sortSpec h1 1099511627776 hn (Nat.le_refl _)).mono ?_
  rintro ex w' ⟨v, rfl, ht⟩
  obtain ⟨g1, F', g2, g3, g4, g5⟩ := told_all (fun x hx => (hok x hx).2.1) ht
  refine ⟨v, rfl, fun k => F2 k ∧ k < w.heap.size, h2.bound.kept g3 (fun j hj hf => h3 j hf hj.1), owns_base g1 hs, fun g hg hf => ?_, fun k hk => h5 k hk.1, h6.trans (g3.below (fun k hk => h4 k hk) hs)⟩
  have := (g1.lt g hg).1
  have := hf.2
  omega
theorem Pq.adv {W w : World} {b2 n2 : Nat} {L2 : List Fi} {v : Value} {T : List Fi} (h : Pq W w b2 n2 L2 v T) : Calls Try.prog 12 #[.pointer (some ⟨b2, 0, none⟩), .int .i64 1099511627776] w fun ex w' => ∃ u, ex = .returned (.tuple #[u, .int .i64 0]) ∧ w'.ownsRow W.heap.size 32 2 v T.length (fcL T) ∧ w'.ownsRow W.heap.size 32 2 u L2.length (fcL L2) ∧ Below W.heap.size W w' := by
  obtain ⟨F2, h1, h2, h3, h4, h5⟩ := h
  have hok := h1.ok
  have hn := h1.1
  have hs := h5.size
  refine (advance_yes sortSpec h1 1099511627776 hn (Nat.le_refl _)).mono ?_
  rintro ex w' ⟨u, rfl, ht⟩
  obtain ⟨g1, F', g2, g3, g4, g5⟩ := told_all (fun x hx => (hok x hx).2.1) ht
  exact ⟨u, rfl, g3.owns h2 (fun g hg hf => h3 g hg hf), owns_base g1 hs, h5.trans (g3.below (fun k hk => h4 k hk) hs)⟩

end Go.Proofs.Ytdojmmnojpeklaa
