/-
  Alike of the image and itself, of the image and one with another partition.
-/
import Derived.Test.YtdohjhhflfnncaaDoorFLp
namespace Go.Proofs.YtdohjhhflfnncaaDoor
open Go.RowKit
set_option linter.unusedVariables false
set_option maxRecDepth 100000

section
variable {F G H : Nat → Prop} {w : World} {a b a1 a2 : Option Addr} {c d n n1 c1 n2 c2 : Nat} {AS : List (Array Value)} {ps : List Po} {L : List Ch} {I J : Nat}
theorem elA_sz {i : Nat} {A : Array Value} (h : Ls 21 elA w F a n c AS) (hA : AS[i]? = some A) : A.size = 21 := by
  obtain ⟨_, _, _, _, _, _, _, ⟨_, hs, _⟩⟩ := h.at' i A hA
  exact hs
theorem set_at {i : Nat} {A B C : Array Value} (hA : AS[i]? = some A) (hB : (AS.set J C)[i]? = some B) : (i = J ∧ B = C) ∨ (i ≠ J ∧ B = A) := by
  have hi := (List.getElem?_eq_some_iff.1 hA).1
  by_cases e : i = J
  · subst e
    rw [List.getElem?_set_self hi] at hB
    injection hB with hB
    exact .inl ⟨rfl, hB.symm⟩
  · rw [List.getElem?_set_ne (Ne.symm e), hA] at hB
    injection hB with hB
    exact .inr ⟨e, hB.symm⟩
theorem alike_self (h : Ls 21 elA w F a n c AS) (he : ∀ (i : Nat) (A : Array Value), AS[i]? = some A → ∃ x, elPn w F A.toList x) (hr : Rd w H a1 n1 c1 a2 n2 c2 n ps L) (hi : I < n) :
    Calls Tryd.prog 7 #[.agg #[.slice a n c, .slice a1 n1 c1, .slice a2 n2 c2], .agg #[.slice a n c, .slice a1 n1 c1, .slice a2 n2 c2], .int .i64 ((I : Int) + 1)] w fun e w' => e = .returned (.tuple #[.bool true, .int .i64 0]) ∧ Kept No w w' := by
  have := alike_any (I := I) w (Pp.self h he) hr hi (fun _ => true) (fun i A B hA hB _ W K => by
    rw [hA] at hB
    injection hB with hB
    subst hB
    obtain ⟨x, hx⟩ := he i A hA
    exact samePart_yes W (Tw.self (elPn_kept K (fun _ _ h => h) _ _ hx) (elA_sz h hA)) rfl)
  rw [show (srcL (edg n ps L) n I).all (fun z => (fun _ => true) (z - 1).toNat) = true by simp] at this
  exact this
theorem all_any (zs : List Int) (hz : ∀ z ∈ zs, ∃ k : Nat, k < n ∧ z = (k : Int) + 1) : zs.all (fun z => !((z - 1).toNat == J)) = !(zs.any (· == (J : Int) + 1)) := by
  rw [List.not_any_eq_all_not, Bool.eq_iff_iff, List.all_eq_true, List.all_eq_true]
  refine forall_congr' fun z => forall_congr' fun h => ?_
  obtain ⟨k, _, rfl⟩ := hz z h
  rw [show ((k : Int) + 1 - 1).toNat = k by omega]
  by_cases e : k = J
  · subst e; simp
  · have : ¬ (k : Int) + 1 = (J : Int) + 1 := by omega
    simp [e, this]
theorem not_any {zs : List Int} (h : zs.any (· == (J : Int) + 1) = false) : ¬ (J : Int) + 1 ∈ zs := fun hm => by
  have := List.any_eq_false.1 h _ hm
  simp at this
/-- the two ways, where J's partition is another: with 'source', false; without, true -/
theorem alike_set {C : Array Value} (h : Ls 21 elA w F a n c AS) (he : ∀ (i : Nat) (A : Array Value), AS[i]? = some A → ∃ x, elPn w F A.toList x) (hB : Ls 21 elA w G b n d (AS.set J C)) (hr : Rd w H a1 n1 c1 a2 n2 c2 n ps L) (hi : I < n)
    (hsv : ∀ A, AS[J]? = some A → ∀ W, Kept No w W → Calls Tryd.prog 24 #[.agg A, .agg C] W fun e W' => e = .returned (.bool true) ∧ Kept No W W')
    (hsp : (srcL (edg n ps L) n I).any (· == (J : Int) + 1) = true → ∀ A, AS[J]? = some A → ∀ W, Kept No w W → Calls Tryd.prog 28 #[.agg A, .agg C] W fun e W' => e = .returned (.bool false) ∧ Kept No W W') :
    Calls Tryd.prog 7 #[.agg #[.slice a n c, .slice a1 n1 c1, .slice a2 n2 c2], .agg #[.slice b n d, .slice a1 n1 c1, .slice a2 n2 c2], .int .i64 ((I : Int) + 1)] w fun e w' => e = .returned (.tuple #[.bool (!(srcL (edg n ps L) n I).any (· == (J : Int) + 1)), .int .i64 0]) ∧ Kept No w w' := by
  have hP : Pp w F G a c b d n AS (AS.set J C) := ⟨h, hB, fun i A B hA hB' W K => by
    rcases set_at hA hB' with ⟨rfl, rfl⟩ | ⟨_, rfl⟩
    · exact hsv A hA W K
    · obtain ⟨x, hx⟩ := he i B hA
      exact (Tw.self (elPn_kept K (fun _ _ h => h) _ _ hx) (elA_sz h hA)).server⟩
  have := alike_any (I := I) w hP hr hi (fun k => !(k == J)) (fun i A B hA hB' hm W K => by
    rcases set_at hA hB' with ⟨rfl, rfl⟩ | ⟨hne, rfl⟩
    · rw [show (!(i == i)) = false by simp]
      exact hsp (List.any_eq_true.2 ⟨_, hm, by simp⟩) A hA W K
    · rw [show (!(i == J)) = true by simp [hne]]
      obtain ⟨x, hx⟩ := he i B hA
      exact samePart_yes W (Tw.self (elPn_kept K (fun _ _ h => h) _ _ hx) (elA_sz h hA)) rfl)
  rw [all_any (n := n) _ srcL_in] at this
  exact this
theorem alike_setr {C : Array Value} (h : Ls 21 elA w F a n c AS) (he : ∀ (i : Nat) (A : Array Value), AS[i]? = some A → ∃ x, elPn w F A.toList x) (hB : Ls 21 elA w G b n d (AS.set J C)) (hr : Rd w H a1 n1 c1 a2 n2 c2 n ps L) (hi : I < n)
    (hsv : ∀ A, AS[J]? = some A → ∀ W, Kept No w W → Calls Tryd.prog 24 #[.agg C, .agg A] W fun e W' => e = .returned (.bool true) ∧ Kept No W W')
    (hsp : (srcL (edg n ps L) n I).any (· == (J : Int) + 1) = true → ∀ A, AS[J]? = some A → ∀ W, Kept No w W → Calls Tryd.prog 28 #[.agg C, .agg A] W fun e W' => e = .returned (.bool false) ∧ Kept No W W') :
    Calls Tryd.prog 7 #[.agg #[.slice b n d, .slice a1 n1 c1, .slice a2 n2 c2], .agg #[.slice a n c, .slice a1 n1 c1, .slice a2 n2 c2], .int .i64 ((I : Int) + 1)] w fun e w' => e = .returned (.tuple #[.bool (!(srcL (edg n ps L) n I).any (· == (J : Int) + 1)), .int .i64 0]) ∧ Kept No w w' := by
  have hP : Pp w G F b d a c n (AS.set J C) AS := ⟨hB, h, fun i B A hB' hA W K => by
    rcases set_at hA hB' with ⟨rfl, rfl⟩ | ⟨_, rfl⟩
    · exact hsv A hA W K
    · obtain ⟨x, hx⟩ := he i B hA
      exact (Tw.self (elPn_kept K (fun _ _ h => h) _ _ hx) (elA_sz h hA)).server⟩
  have := alike_any (I := I) w hP hr hi (fun k => !(k == J)) (fun i B A hB' hA hm W K => by
    rcases set_at hA hB' with ⟨rfl, rfl⟩ | ⟨hne, rfl⟩
    · rw [show (!(i == i)) = false by simp]
      exact hsp (List.any_eq_true.2 ⟨_, hm, by simp⟩) A hA W K
    · rw [show (!(i == J)) = true by simp [hne]]
      obtain ⟨x, hx⟩ := he i B hA
      exact samePart_yes W (Tw.self (elPn_kept K (fun _ _ h => h) _ _ hx) (elA_sz h hA)) rfl)
  rw [all_any (n := n) _ srcL_in] at this
  exact this
end
end Go.Proofs.YtdohjhhflfnncaaDoor
