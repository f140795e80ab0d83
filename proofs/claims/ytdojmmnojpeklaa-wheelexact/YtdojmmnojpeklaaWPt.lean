/-
  Two wheels and what the first told.
-/
import Derived.Test.YtdojmmnojpeklaaWPw
import Derived.Test.YtdojmmnojpeklaaWFiresP
namespace Go.Proofs.Ytdojmmnojpeklaa
open Go.RowKit
set_option linter.unusedVariables false

def Pt (W w : World) (b1 b2 n1 n2 : Nat) (L1 L2 : List Fi) (v : Value) (T : List Fi) : Prop :=
  ∃ F1 F2, Wh w F1 b1 n1 L1 ∧ Wh w F2 b2 n2 L2 ∧ (∀ k, F1 k → ¬ F2 k) ∧ (∀ k, F1 k → W.heap.size ≤ k) ∧ (∀ k, F2 k → W.heap.size ≤ k) ∧ Below W.heap.size W w ∧ w.ownsRow W.heap.size 32 2 v T.length (fcL T) ∧ ∀ g, v.ownBlock = some g → ¬ F1 g ∧ ¬ F2 g
namespace Pt
variable {W w w' : World} {b1 b2 n1 n2 : Nat} {L1 L2 T : List Fi} {v : Value}
theorem bel (h : Pt W w b1 b2 n1 n2 L1 L2 v T) : Below W.heap.size W w := by obtain ⟨_, _, _, _, _, _, _, h, _⟩ := h; exact h
theorem row (h : Pt W w b1 b2 n1 n2 L1 L2 v T) : w.ownsRow W.heap.size 32 2 v T.length (fcL T) := by obtain ⟨_, _, _, _, _, _, _, _, h, _⟩ := h; exact h
theorem below (h : Pt W w b1 b2 n1 n2 L1 L2 v T) (k : Below w.heap.size w w') : Pt W w' b1 b2 n1 n2 L1 L2 v T := by
  obtain ⟨F1, F2, h1, h2, h3, h4, h5, h6, h7, h8⟩ := h
  exact ⟨F1, F2, h1.below k, h2.below k, h3, h4, h5, h6.trans (k.mono h6.size), (Kept.of_below (F := No) k).owns h7 (fun _ _ h => h), h8⟩
theorem drewN (h : Pt W w b1 b2 n1 n2 L1 L2 v T) (q : Nat) : Pt W (w.drewN q) b1 b2 n1 n2 L1 L2 v T := h.below ⟨rfl, rfl, rfl, Nat.le_refl _, fun _ _ => rfl⟩
theorem len1 (h : Pt W w b1 b2 n1 n2 L1 L2 v T) : Calls Try.prog 8 #[.pointer (some ⟨b1, 0, none⟩)] w fun ex w' => ex = .returned (.int .i64 L1.length) ∧ w' = w := by
  obtain ⟨F1, F2, h1, _⟩ := h
  exact len_wh h1
theorem now1 (h : Pt W w b1 b2 n1 n2 L1 L2 v T) : Calls Try.prog 14 #[.pointer (some ⟨b1, 0, none⟩)] w fun ex w' => ex = .returned (.int .i64 n1) ∧ w' = w := by
  obtain ⟨F1, F2, h1, _⟩ := h
  exact now_wh h1
theorem now2 (h : Pt W w b1 b2 n1 n2 L1 L2 v T) : Calls Try.prog 14 #[.pointer (some ⟨b2, 0, none⟩)] w fun ex w' => ex = .returned (.int .i64 n2) ∧ w' = w := by
  obtain ⟨F1, F2, h1, h2, _⟩ := h
  exact now_wh h2
theorem next2 (h : Pt W w b1 b2 n1 n2 L1 L2 v T) : Calls Try.prog 16 #[.pointer (some ⟨b2, 0, none⟩)] w fun ex w' => ex = .returned (.tuple #[.int .i64 ((L2.head?.map Fi.t).getD 0), .bool L2.head?.isSome]) ∧ Pt W w' b1 b2 n1 n2 L1 L2 v T := by
  have hh := h
  obtain ⟨F1, F2, h1, h2, _⟩ := h
  refine (next_wh h2).mono ?_
  rintro ex w' ⟨rfl, hb⟩
  exact ⟨rfl, hh.below hb⟩
/-- the second goes on: what it tells is its holder's -/
theorem adv2 (h : Pt W w b1 b2 n1 n2 L1 L2 v T) (tg : Nat) (hle : n2 ≤ tg) (htg : tg ≤ 1099511627776) : Calls Try.prog 12 #[.pointer (some ⟨b2, 0, none⟩), .int .i64 tg] w fun ex w' => ∃ u A L', ex = .returned (.tuple #[u, .int .i64 0]) ∧ L2 = A ++ L' ∧ (∀ x, x ∈ A → x.t ≤ tg) ∧ (∀ x, x ∈ L' → (tg : Int) < x.t) ∧ w'.ownsRow w.heap.size 32 2 u A.length (fcL A) ∧ Pt W w' b1 b2 n1 tg L1 L' v T ∧ Kept (fun k => W.heap.size ≤ k ∧ v.ownBlock ≠ some k) w w' := by
  obtain ⟨F1, F2, h1, h2, h3, h4, h5, h6, h7, h8⟩ := h
  have hs := h6.size
  refine (advance_yes sortSpec h2 tg hle htg).mono ?_
  rintro ex w' ⟨u, rfl, F', A, L', e, q1, q2, q3, q4, q5, q6, q7⟩
  refine ⟨u, A, L', rfl, e, q1, q2, q3, ⟨fun k => F1 k ∧ k < w.heap.size, F', h1.bound.kept q5 (fun j hj hf => h3 j hj.1 hf), q4, fun k hk hn => ?_, fun k hk => h4 k hk.1, fun k hk => ?_, h6.trans (q5.below (fun k hk => h5 k hk) hs), q5.owns h7 (fun g hg hf => (h8 g hg).2 hf), fun g hg => ⟨fun hf => (h8 g hg).1 hf.1, fun hf => ?_⟩⟩, q5.mono (fun k hk => ⟨h5 k hk, fun e => (h8 k e).2 hk⟩)⟩
  · rcases q6 k hn with h | h
    · exact h3 k hk.1 h
    · exact absurd hk.2 (by omega)
  · rcases q6 k hk with h | h
    · exact h5 k h
    · omega
  · rcases q6 g hf with h | h
    · exact (h8 g hg).2 h
    · have := (h7.lt g hg).2; omega
end Pt
theorem Pw.advT {W w : World} {b1 b2 n1 n2 : Nat} {L1 L2 : List Fi} (h : Pw W w b1 b2 n1 n2 L1 L2) : Calls Try.prog 12 #[.pointer (some ⟨b1, 0, none⟩), .int .i64 1099511627776] w fun ex w' => ∃ v, ex = .returned (.tuple #[v, .int .i64 0]) ∧ Pt W w' b1 b2 1099511627776 n2 [] L2 v L1 := by
  obtain ⟨F1, F2, h1, h2, h3, h4, h5, h6⟩ := h
  have hok := h1.ok
  have hn := h1.1
  have hs := h6.size
  refine (advance_yes sortSpec h1 1099511627776 hn (Nat.le_refl _)).mono ?_
  rintro ex w' ⟨v, rfl, ht⟩
  obtain ⟨g1, F', g2, g3, g4, g5⟩ := told_all (fun x hx => (hok x hx).2.1) ht
  refine ⟨v, rfl, F', fun k => F2 k ∧ k < w.heap.size, g2, h2.bound.kept g3 (fun j hj hf => h3 j hf hj.1), fun k hk hn => ?_, fun k hk => ?_, fun k hk => h5 k hk.1, h6.trans (g3.below (fun k hk => h4 k hk) hs), owns_base g1 hs, fun g hg => ⟨g5 g hg, fun hf => ?_⟩⟩
  · rcases g4 k hk with h | h
    · exact h3 k h hn.1
    · exact absurd hn.2 (by omega)
  · rcases g4 k hk with h | h
    · exact h4 k h
    · omega
  · have := (g1.lt g hg).1
    have := hf.2
    omega

end Go.Proofs.Ytdojmmnojpeklaa
