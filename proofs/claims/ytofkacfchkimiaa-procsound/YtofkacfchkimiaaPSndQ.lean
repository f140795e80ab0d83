/-
  ProcSound: who may run (plain), Pick whole.
-/
import Derived.Test.YtofkacfchkimiaaPSndC
import Derived.Test.YtofkacfchkimiaaPPick
namespace Go.Proofs.Ytofkacfchkimiaa
open Go.RowKit Plain
set_option linter.unusedVariables false
set_option linter.unusedSimpArgs false
set_option maxRecDepth 100000

/-- comes ahead -/
def Pr.ahead (p q : Pr) : Prop := q.pri < p.pri ∨ (p.pri = q.pri ∧ p.pl < q.pl)
theorem cmp_ahead (p q : Pr) : cmpP p q < 0 ↔ p.ahead q := by
  unfold cmpP sgn Pr.ahead
  split
  · split
    · omega
    · split <;> omega
  · split
    · omega
    · split <;> omega
theorem pk_best (T : Tt) : ∀ k, (T.pk k = 0 ∧ ∀ j, j < k → (T.ps j).st ≠ 1) ∨ (∃ r, r < k ∧ T.pk k = r + 1 ∧ (T.ps r).st = 1 ∧ ∀ j, j < k → (T.ps j).st = 1 → ¬ (T.ps j).ahead (T.ps r))
  | 0 => .inl ⟨rfl, fun j h => by omega⟩
  | k + 1 => by
    have e : T.pk (k + 1) = if (T.ps k).st = 1 ∧ (T.pk k = 0 ∨ cmpP (T.ps k) (T.ps (T.pk k - 1)) < 0) then k + 1 else T.pk k := rfl
    rcases pk_best T k with ⟨h1, h2⟩ | ⟨r, hr, h1, h2, h3⟩
    · by_cases hs : (T.ps k).st = 1
      · rw [if_pos ⟨hs, .inl h1⟩] at e
        refine .inr ⟨k, by omega, e, hs, fun j hj hj1 => ?_⟩
        by_cases ej : j = k
        · subst ej; unfold Pr.ahead; omega
        · exact absurd hj1 (h2 j (by omega))
      · rw [if_neg (fun h => hs h.1)] at e
        refine .inl ⟨e.trans h1, fun j hj => ?_⟩
        by_cases ej : j = k
        · subst ej; exact hs
        · exact h2 j (by omega)
    · have e1 : T.pk k - 1 = r := by omega
      rw [e1] at e
      by_cases hs : (T.ps k).st = 1 ∧ cmpP (T.ps k) (T.ps r) < 0
      · rw [if_pos ⟨hs.1, .inr hs.2⟩] at e
        have ha := (cmp_ahead _ _).1 hs.2
        refine .inr ⟨k, by omega, e, hs.1, fun j hj hj1 => ?_⟩
        by_cases ej : j = k
        · subst ej; unfold Pr.ahead; omega
        · have := h3 j (by omega) hj1
          unfold Pr.ahead at this ha ⊢
          omega
      · rw [if_neg (fun h => by rcases h.2 with h4 | h4; omega; exact hs ⟨h.1, h4⟩)] at e
        refine .inr ⟨r, by omega, e.trans h1, h2, fun j hj hj1 => ?_⟩
        by_cases ej : j = k
        · subst ej; exact fun ha => hs ⟨hj1, (cmp_ahead _ _).2 ha⟩
        · exact h3 j (by omega) hj1
/-- is one of the first k READY -/
def Tt.some (T : Tt) : Nat → Bool
  | 0 => false
  | k + 1 => T.some k || decide ((T.ps k).st = 1)
theorem some_no (T : Tt) : ∀ k, (∀ j, j < k → (T.ps j).st ≠ 1) → T.some k = false
  | 0, _ => rfl
  | k + 1, h => by show (T.some k || _) = false; rw [some_no T k (fun j hj => h j (by omega)), decide_eq_false (h k (by omega))]; rfl
theorem some_yes (T : Tt) {r : Nat} (hs : (T.ps r).st = 1) : ∀ k, r < k → T.some k = true
  | 0, h => by omega
  | k + 1, h => by
    show (T.some k || _) = true
    by_cases e : r = k
    · subst e; rw [decide_eq_true hs, Bool.or_true]
    · rw [some_yes T hs k (by omega), Bool.true_or]
/-- who may run: the number; whether there is one -/
structure Runs (T : Tt) (run : Int) (ok : Bool) : Prop where
  some : T.some T.n = ok
  who : ok = true → ∃ r, r < T.n ∧ run = (r : Int) + 1 ∧ (T.ps r).st = 1 ∧ ((T.hd = (r : Int) + 1) ∨ ((¬ ∃ i, i < T.n ∧ T.hd = (i : Int) + 1 ∧ (T.ps i).st = 1) ∧ T.lk = (r : Int) + 1) ∨ ((¬ ∃ i, i < T.n ∧ T.hd = (i : Int) + 1 ∧ (T.ps i).st = 1) ∧ T.lk = 0 ∧ ∀ j, j < T.n → (T.ps j).st = 1 → ¬ (T.ps j).ahead (T.ps r)))
section
variable {b g cap : Nat} {T : Tt} {q M : Nat}
theorem pick_any (w : World) (h : Tw w b g cap T) (hn : T.n ≤ 1048576) (S : Sd T q M) : Calls Try.prog 22 #[.pointer (some ⟨b, 0, none⟩)] w fun e w' => ∃ run ok, e = .returned (.tuple #[.int .i64 run, .bool ok]) ∧ Runs T run ok ∧ Kept No w w' := by
  by_cases hh : ∃ i, i < T.n ∧ T.hd = (i : Int) + 1 ∧ (T.ps i).st = 1
  · obtain ⟨i, hi, e1, e2⟩ := hh
    refine (pick_hand w h hi hn e2 e1).mono ?_
    rintro e w' ⟨rfl, rfl⟩
    exact ⟨_, _, rfl, ⟨some_yes T e2 _ hi, fun _ => ⟨i, hi, rfl, e2, .inl e1⟩⟩, Kept.refl _ _⟩
  have fr : Calls Try.prog 49 #[.pointer (some ⟨b, 0, none⟩), .int .i64 T.hd] w fun e w' => e = .returned (.pointer none) ∧ w' = w := by
    have hd := S.hd
    by_cases h0 : T.hd = 0
    · exact ready_no w h (by omega) hn
    · have hi : (T.hd - 1).toNat < T.n := by omega
      have e1 : T.hd = ((T.hd - 1).toNat : Int) + 1 := by omega
      rw [e1]
      exact ready_not w h hi hn (fun e => hh ⟨_, hi, e1, e⟩)
  rcases S.lock with hl | ⟨i, hi, e1, e2, e3⟩
  · refine (pick_line w h hn fr hl).mono ?_
    rintro e w' ⟨rfl, k⟩
    refine ⟨_, _, rfl, ?_, k⟩
    rcases pk_best T T.n with ⟨p1, p2⟩ | ⟨r, hr, p1, p2, p3⟩
    · exact ⟨by rw [some_no T _ p2, p1]; rfl, fun e => by rw [p1] at e; simp at e⟩
    · exact ⟨by rw [some_yes T p2 _ hr, p1]; simp, fun _ => ⟨r, hr, by rw [p1]; omega, p2, .inr (.inr ⟨hh, hl, p3⟩)⟩⟩
  · refine (pick_lock w h fr (by omega)).mono ?_
    rintro e w' ⟨rfl, rfl⟩
    exact ⟨_, _, rfl, ⟨some_yes T e2 _ hi, fun _ => ⟨i, hi, e1, e2, .inr (.inl ⟨hh, e1⟩)⟩⟩, Kept.refl _ _⟩
end
end Go.Proofs.Ytofkacfchkimiaa
