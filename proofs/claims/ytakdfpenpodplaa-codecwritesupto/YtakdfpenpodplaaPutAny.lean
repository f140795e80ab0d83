/-
  'put' of any operation.
-/
import Derived.Test.YtakdfpenpodplaaPut7
namespace Go.Proofs.Ytakdfpenpodplaa
open Go.RowKit
set_option linter.unusedVariables false

theorem put_any (F G Gb Gl : Nat → Prop) (p q : Nat) (bs : List Nat) (e K N Wd : Int) (Fl : Bool) (ba : Option Addr) (bn bc : Nat) (la : Option Addr) (ln lc : Nat) (M : Int) (xs : List Nat) (zs : List Int) (w : World) (hW : Wr w F p bs e) (hO : Ou w G q bs e) (D : ∀ k, F k → ¬ G k) (hsz : bs.length ≤ 1000000000) (hN : N ≤ 9223372036854775807)
    (hB : K = 6 → Bs w Gb ba bn bc xs ∧ (∀ k, Gb k → ¬ F k) ∧ (∀ k, Gb k → ¬ G k) ∧ (∀ k, Gb k → k < w.heap.size) ∧ bn ≤ 1000000000)
    (hZ : K = 7 → Zs w Gl la ln lc zs ∧ (∀ k, Gl k → ¬ F k) ∧ (∀ k, Gl k → ¬ G k) ∧ (∀ k, Gl k → k < w.heap.size) ∧ (∀ z ∈ zs, z ≤ 9223372036854775807) ∧ ln ≤ 1000000000) :
    Calls Try.prog 43 #[.pointer (some ⟨p, 0, none⟩), .pointer (some ⟨q, 0, none⟩), opV K N Wd Fl ba bn bc la ln lc M] w fun ex w' => ex = .returned (.bool true) ∧ Bw F G p q (wOp bs e K N Wd Fl xs zs M).1 (wOp bs e K N Wd Fl xs zs M).2 w w' := by
  unfold wOp
  by_cases h1 : K = 1
  · subst h1; exact put1o F G p q bs e N Wd Fl ba bn bc la ln lc M w hW hO D hsz hN
  rw [if_neg h1]
  by_cases h2 : K = 2
  · subst h2; exact put2o F G p q bs e N Wd Fl ba bn bc la ln lc M w hW hO D hsz hN
  rw [if_neg h2]
  by_cases h3 : K = 3
  · subst h3; exact put3o F G p q bs e N Wd Fl ba bn bc la ln lc M w hW hO D hsz hN
  rw [if_neg h3]
  by_cases h4 : K = 4
  · subst h4; exact put4o F G p q bs e N Wd Fl ba bn bc la ln lc M w hW hO D hsz hN
  rw [if_neg h4]
  by_cases h5 : K = 5
  · subst h5; exact put5o F G p q bs e N Wd Fl ba bn bc la ln lc M w hW hO D hsz hN
  rw [if_neg h5]
  by_cases h6 : K = 6
  · subst h6
    obtain ⟨a1, a2, a3, a4, a5⟩ := hB rfl
    exact put6o F G Gb p q bs e N Wd Fl ba bn bc la ln lc M xs w hW hO D hsz a1 a2 a3 a4 a5
  rw [if_neg h6]
  by_cases h7 : K = 7
  · subst h7
    obtain ⟨a1, a2, a3, a4, a5, a6⟩ := hZ rfl
    exact put7o F G Gl p q bs e N Wd Fl ba bn bc la ln lc M zs w hW hO D hsz a1 a2 a3 a4 a5 a6
  rw [if_neg h7]
  by_cases h8 : K = 8
  · subst h8; exact put8o F G p q bs e N Wd Fl ba bn bc la ln lc M w hW hO D hsz hN
  · exact putElse K F G p q bs e N Wd Fl ba bn bc la ln lc M w hW hO D hsz hN h1 h2 h3 h4 h5 h6 h7 h8

end Go.Proofs.Ytakdfpenpodplaa
