/-
  Inputs as bytes (no walk).
-/
import Derived.Test.YtfdcmhbpnadcpabDoorCSeal
import Derived.Test.YtfdcmhbpnadcpabDoorIPlain
namespace Go.Proofs.YtfdcmhbpnadcpabDoor
set_option linter.unusedVariables false
set_option maxRecDepth 100000

def wdB (d : List Int) : List Nat := (d.map be64).flatten
def hdB (x : Inp) : List Nat := be64 x.tk ++ be64 x.kd ++ be64 x.tg
def inB (x : Inp) : List Nat := hdB x ++ be x.d.length 4 ++ wdB x.d
def insB (xs : List Inp) : List Nat := (xs.map inB).flatten
theorem be64_len (x : Int) : (be64 x).length = 8 := by unfold be64; rw [be_length]
theorem wdB_nil : wdB [] = [] := rfl
theorem wdB_snoc (d : List Int) (x : Int) : wdB (d ++ [x]) = wdB d ++ be64 x := by simp [wdB]
theorem wdB_len (d : List Int) : (wdB d).length = 8 * d.length := by
  induction d with
  | nil => rfl
  | cons x d ih => simp [wdB, be64_len] at ih ⊢; omega
theorem hdB_len (x : Inp) : (hdB x).length = 24 := by simp [hdB, be64_len]
theorem inB_len (x : Inp) : (inB x).length = 28 + 8 * x.d.length := by simp [inB, hdB_len, be_length, wdB_len]; omega
theorem insB_cons (x : Inp) (xs : List Inp) : insB (x :: xs) = inB x ++ insB xs := by simp [insB]
/-- words, of which so many may be -/
def pwE (d : List Int) (most : Int) : Int := if most < (d.length : Int) then 1 else 0
def pwB (bs : List Nat) (d : List Int) (most : Int) : List Nat := if most < (d.length : Int) then bs else bs ++ be d.length 4 ++ wdB d
/-- one input more -/
def tlN (s : List Nat × Int) (x : Inp) : List Nat × Int := if s.2 ≠ 0 then s else (pwB (s.1 ++ hdB x) x.d (Int.tdiv (4194304 - ((s.1 ++ hdB x).length : Int)) 8), pwE x.d (Int.tdiv (4194304 - ((s.1 ++ hdB x).length : Int)) 8))
theorem tlN_stuck {s : List Nat × Int} (h : s.2 ≠ 0) (x : Inp) : tlN s x = s := if_pos h
theorem fold_stuck {s : List Nat × Int} (h : s.2 ≠ 0) : ∀ xs : List Inp, xs.foldl tlN s = s
  | [] => rfl
  | x :: xs => by rw [List.foldl_cons, tlN_stuck h]; exact fold_stuck h xs
theorem tlN_yes {bs : List Nat} {x : Inp} (h : ¬ Int.tdiv (4194304 - ((bs ++ hdB x).length : Int)) 8 < (x.d.length : Int)) : tlN (bs, 0) x = (bs ++ inB x, 0) := by
  unfold tlN pwB pwE
  rw [if_neg (by simp), if_neg h, if_neg h]
  simp [inB]
theorem tlN_no {bs : List Nat} {x : Inp} (h : Int.tdiv (4194304 - ((bs ++ hdB x).length : Int)) 8 < (x.d.length : Int)) : tlN (bs, 0) x = (bs ++ hdB x, 1) := by
  unfold tlN pwB pwE
  rw [if_neg (by simp), if_pos h, if_pos h]
theorem tdiv8 (z : Int) : (0 ≤ z → Int.tdiv z 8 = z / 8) ∧ (z < 0 → Int.tdiv z 8 ≤ 0) := by
  refine ⟨fun h => Int.tdiv_eq_ediv_of_nonneg h, fun h => ?_⟩
  have := Int.tdiv_nonneg (a := -z) (b := 8) (by omega) (by omega)
  rw [Int.neg_tdiv] at this
  omega
theorem fold_tl : ∀ (xs : List Inp) (bs : List Nat), (xs.foldl tlN (bs, 0) = (bs ++ insB xs, 0)) ∨ ((xs.foldl tlN (bs, 0)).2 = 1 ∧ 4194304 < bs.length + (insB xs).length)
  | [], bs => .inl (by simp [insB])
  | x :: xs, bs => by
    rw [List.foldl_cons]
    have hl : (bs ++ hdB x).length = bs.length + 24 := by rw [List.length_append, hdB_len]
    by_cases h : Int.tdiv (4194304 - ((bs ++ hdB x).length : Int)) 8 < (x.d.length : Int)
    · rw [tlN_no h, fold_stuck (by simp)]
      refine .inr ⟨rfl, ?_⟩
      rw [insB_cons, List.length_append, inB_len]
      rw [hl] at h
      by_cases hz : 0 ≤ (4194304 : Int) - ((bs.length + 24 : Nat) : Int)
      · rw [(tdiv8 _).1 hz] at h; omega
      · omega
    · rw [tlN_yes h]
      rcases fold_tl xs (bs ++ inB x) with h2 | ⟨h2, h3⟩
      · left; rw [h2, insB_cons, List.append_assoc]
      · right
        refine ⟨h2, ?_⟩
        rw [insB_cons]
        rw [List.length_append] at h3 ⊢
        omega
/-- what stands behind so many -/
theorem fold_len : ∀ (xs : List Inp) (bs : List Nat), (xs.foldl tlN (bs, 0)).1.length ≤ max bs.length 4194304 + 28 * xs.length
  | [], bs => by simp; omega
  | x :: xs, bs => by
    rw [List.foldl_cons]
    have hl : (bs ++ hdB x).length = bs.length + 24 := by rw [List.length_append, hdB_len]
    by_cases h : Int.tdiv (4194304 - ((bs ++ hdB x).length : Int)) 8 < (x.d.length : Int)
    · rw [tlN_no h, fold_stuck (by simp)]
      show (bs ++ hdB x).length ≤ _
      rw [hl, List.length_cons]; omega
    · rw [tlN_yes h]
      have ih := fold_len xs (bs ++ inB x)
      have hi : (bs ++ inB x).length = bs.length + (28 + 8 * x.d.length) := by rw [List.length_append, inB_len]
      rw [hi] at ih
      rw [hl] at h
      rw [List.length_cons]
      by_cases hz : 0 ≤ (4194304 : Int) - ((bs.length + 24 : Nat) : Int)
      · rw [(tdiv8 _).1 hz] at h
        omega
      · have := (tdiv8 _).2 (by omega : (4194304 : Int) - ((bs.length + 24 : Nat) : Int) < 0)
        omega
def encB (xs : List Inp) : List Nat := be xs.length 4 ++ insB xs
def encOk (xs : List Inp) : Bool := decide (xs.length ≤ 65536) && decide ((encB xs).length ≤ 4194304)
end Go.Proofs.YtfdcmhbpnadcpabDoor
