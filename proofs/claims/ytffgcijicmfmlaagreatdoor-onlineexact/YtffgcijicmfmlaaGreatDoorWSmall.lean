/-
  The wheel's small calls: Now, Len, When, empty, begin, first.
-/
import Derived.Test.YtffgcijicmfmlaaGreatDoorWSlot
namespace Go.Proofs.YtffgcijicmfmlaaGreatDoor
open Go.RowKit
set_option linter.unusedVariables false

def un (x : Int) : Nat := (x % 18446744073709551616).toNat
theorem un_bv (x : Int) : (BitVec.ofInt 64 x).toNat = un x := by rw [BitVec.toNat_ofInt]; unfold un; congr 1
theorem bits_or (x y : Int) : bits .or .i64 x y = wrap64 ((un x ||| un y : Nat) : Int) := by
  show IntKind.i64.wrap (((BitVec.ofInt 64 x ||| BitVec.ofInt 64 y).toNat : Nat) : Int) = _
  rw [BitVec.toNat_or, un_bv, un_bv, IntKind.wrap_i64]; unfold wrap64; first | done | omega
theorem or64 (X p : Nat) (hp : p < 64) (hX : X < 70368744177664) : bits .or .i64 ((X : Int) * 64) p = ((X * 64 + p : Nat) : Int) := by
  rw [bits_or]
  have e1 : un ((X : Int) * 64) = 2 ^ 6 * X := by unfold un; omega
  have e2 : un (p : Int) = p := by unfold un; omega
  rw [e1, e2, ← Nat.two_pow_add_eq_or_of_lt (i := 6) (by simpa using hp) X]
  unfold wrap64
  omega
section
variable {w : World} {b mb n c : Nat} {M : Int → Option (Int × Int)} {S : Nat → List Fi} {V : Nat → Value}
theorem empty_any (h : Wl w b mb n c M S V) (l p : Nat) (hl : l < 7) (hp : p < 64) : Calls Tryz.prog 115 #[.pointer (some ⟨b, 0, none⟩), .int .i64 l, .int .i64 p] w fun ex w' => ex = .returned (V (ix l p)) ∧ w' = w.setCell ⟨b, 2 + ix l p, none⟩ (.slice none 0 0) := by
  have h0 := h.slot (ix l p) (ix_lt hl hp)
  have hf := h.fz (2 + ix l p)
  clear h
  unfold ix at *
  rw [show 2 + (64 * l + p) = 2 + l * 64 + p by omega] at *
  generalize V (64 * l + p) = v at *
  go_enter Tryz.func115, Tryz.ntmps115
  go_wp2
  go_ret
  exact ⟨rfl, rfl⟩
theorem begin_any (h : Wl w b mb n c M S V) (l p : Nat) (hl : l < 7) (hp : p < 64) (hn : n < 4398046511104) : Calls Tryz.prog 114 #[.pointer (some ⟨b, 0, none⟩), .int .i64 l, .int .i64 p] w fun ex w' => ex = .returned (.int .i64 (beg n l p)) ∧ w' = w := by
  have h0 := h.now
  clear h
  obtain ⟨r, hr⟩ : ∃ r, r = beg n l p := ⟨_, rfl⟩
  rw [← hr]
  have HR : Hid (r = beg n l p) := hr
  clear hr
  have h7 : l = 0 ∨ l = 1 ∨ l = 2 ∨ l = 3 ∨ l = 4 ∨ l = 5 ∨ l = 6 := by omega
  rcases h7 with rfl | rfl | rfl | rfl | rfl | rfl | rfl
  all_goals
    go_enter Tryz.func114, Tryz.ntmps114
    go_wp2
    go_ret
    refine ⟨?_, rfl⟩
    rw [HR.out]
    unfold beg
    refine congrArg (fun z => Ending.returned (Value.int .i64 z)) ?_
    simp only [Nat.zero_add, Nat.reduceAdd, Nat.reducePow]
    first
      | (rw [← Int.natCast_ediv] ; rw [or64 _ _ hp (by omega)]; unfold wrap64; omega)
      | (rw [show ((n : Int) / 64) = ((n / 64 : Nat) : Int) by omega, or64 _ _ hp (by omega)]; unfold wrap64; omega)
      | (rw [show ((n : Int) / 4096) = ((n / 4096 : Nat) : Int) by omega, or64 _ _ hp (by omega)]; unfold wrap64; omega)
      | (rw [show ((n : Int) / 262144) = ((n / 262144 : Nat) : Int) by omega, or64 _ _ hp (by omega)]; unfold wrap64; omega)
      | (rw [show ((n : Int) / 16777216) = ((n / 16777216 : Nat) : Int) by omega, or64 _ _ hp (by omega)]; unfold wrap64; omega)
      | (rw [show ((n : Int) / 1073741824) = ((n / 1073741824 : Nat) : Int) by omega, or64 _ _ hp (by omega)]; unfold wrap64; omega)
      | (rw [show ((n : Int) / 68719476736) = ((n / 68719476736 : Nat) : Int) by omega, or64 _ _ hp (by omega)]; unfold wrap64; omega)
      | (rw [show ((n : Int) / 4398046511104) = ((n / 4398046511104 : Nat) : Int) by omega, or64 _ _ hp (by omega)]; unfold wrap64; omega)
end

end Go.Proofs.YtffgcijicmfmlaaGreatDoor
