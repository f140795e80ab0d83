/-
  The wheel's small calls: Now, Len, When, empty, begin, first.
-/
import Derived.Test.YtdojmmnojpeklaaWSlot
namespace Go.Proofs.Ytdojmmnojpeklaa
open Go.RowKit
set_option linter.unusedVariables false

def un (x : Int) : Nat := (x % 18446744073709551616).toNat
theorem un_bv (x : Int) : (BitVec.ofInt 64 x).toNat = un x := by rw [BitVec.toNat_ofInt]; unfold un; congr 1
theorem bits_or (x y : Int) : bits .or .i64 x y = wrap64 ((un x ||| un y : Nat) : Int) := by
  show IntKind.i64.wrap (((BitVec.ofInt 64 x ||| BitVec.ofInt 64 y).toNat : Nat) : Int) = _
  rw [BitVec.toNat_or, un_bv, un_bv, IntKind.wrap_i64]; unfold wrap64; first | done | omega
theorem or64 (X p : Nat) (hp : p < 64) (hX : X < 70368744177664) : bits .or .i64 ((X : Int) * 64) p = ((X * 64 + p : Nat) : Int) := by
  rw [bits_or]
  have e1 : un ((X : Int) * 64) = 2 ^ 6 * X := by unfold un; omega
  have e2 : un (p : Int) = p := by unfold un; omega
  rw [e1, e2, ← Nat.two_pow_add_eq_or_of_lt (i := 6) (by simpa using hp) X]
  unfold wrap64
  omega
section
variable {w : World} {b mb n c : Nat} {M : Int → Option (Int × Int)} {S : Nat → List Fi} {V : Nat → Value}
theorem now_any (h : Wl w b mb n c M S V) : Calls Try.prog 14 #[.pointer (some ⟨b, 0, none⟩)] w fun ex w' => ex = .returned (.int .i64 n) ∧ w' = w := by
  have h0 := h.now
  clear h
  go_enter Try.func14, Try.ntmps14
  go_wp2
  go_ret
  exact ⟨rfl, rfl⟩
theorem len_any (h : Wl w b mb n c M S V) : Calls Try.prog 8 #[.pointer (some ⟨b, 0, none⟩)] w fun ex w' => ex = .returned (.int .i64 c) ∧ w' = w := by
  have h0 := h.map
  have hl := h.tm.len
  clear h
  go_enter Try.func8, Try.ntmps8
  go_wp2
  go_ret
  exact ⟨rfl, rfl⟩
theorem when_any (h : Wl w b mb n c M S V) (x : Int) (hx : I6 x) : Calls Try.prog 7 #[.pointer (some ⟨b, 0, none⟩), .int .i64 x] w fun ex w' => ex = .returned (.tuple #[.int .i64 ((M x).getD (0, 0)).1, .bool (M x).isSome]) ∧ Below w.heap.size w w' := by
  have h0 := h.map
  have hl := h.tm.look hx
  clear h
  unfold tmV at hl
  generalize ((M x).getD (0, 0)).1 = tt at *
  generalize ((M x).getD (0, 0)).2 = pp at *
  generalize (M x).isSome = bb at *
  clear hx
  go_enter Try.func7, Try.ntmps7
  go_wp2
  go_ret2
  exact ⟨rfl, (Below.refl _ w).alloc (Nat.le_refl _) _⟩
theorem empty_any (h : Wl w b mb n c M S V) (l p : Nat) (hl : l < 7) (hp : p < 64) : Calls Try.prog 27 #[.pointer (some ⟨b, 0, none⟩), .int .i64 l, .int .i64 p] w fun ex w' => ex = .returned (V (ix l p)) ∧ w' = w.setCell ⟨b, 2 + ix l p, none⟩ (.slice none 0 0) := by
  have h0 := h.slot (ix l p) (ix_lt hl hp)
  have hf := h.fz (2 + ix l p)
  clear h
  unfold ix at *
  rw [show 2 + (64 * l + p) = 2 + l * 64 + p by omega] at *
  generalize V (64 * l + p) = v at *
  go_enter Try.func27, Try.ntmps27
  go_wp2
  go_ret
  exact ⟨rfl, rfl⟩
theorem begin_any (h : Wl w b mb n c M S V) (l p : Nat) (hl : l < 7) (hp : p < 64) (hn : n < 4398046511104) : Calls Try.prog 26 #[.pointer (some ⟨b, 0, none⟩), .int .i64 l, .int .i64 p] w fun ex w' => ex = .returned (.int .i64 (beg n l p)) ∧ w' = w := by
  have h0 := h.now
  clear h
  obtain ⟨r, hr⟩ : ∃ r, r = beg n l p := ⟨_, rfl⟩
  rw [← hr]
  have HR : Hid (r = beg n l p) := hr
  clear hr
  have h7 : l = 0 ∨ l = 1 ∨ l = 2 ∨ l = 3 ∨ l = 4 ∨ l = 5 ∨ l = 6 := by omega
  rcases h7 with rfl | rfl | rfl | rfl | rfl | rfl | rfl
  all_goals
    go_enter Try.func26, Try.ntmps26
    go_wp2
    go_ret
    refine ⟨?_, rfl⟩
    rw [HR.out]
    unfold beg
    refine congrArg (fun z => Ending.returned (Value.int .i64 z)) ?_
    simp only [Nat.zero_add, Nat.reduceAdd, Nat.reducePow]
    first
      | (rw [← Int.natCast_ediv] ; rw [or64 _ _ hp (by omega)]; unfold wrap64; omega)
      | (rw [show ((n : Int) / 64) = ((n / 64 : Nat) : Int) by omega, or64 _ _ hp (by omega)]; unfold wrap64; omega)
      | (rw [show ((n : Int) / 4096) = ((n / 4096 : Nat) : Int) by omega, or64 _ _ hp (by omega)]; unfold wrap64; omega)
      | (rw [show ((n : Int) / 262144) = ((n / 262144 : Nat) : Int) by omega, or64 _ _ hp (by omega)]; unfold wrap64; omega)
      | (rw [show ((n : Int) / 16777216) = ((n / 16777216 : Nat) : Int) by omega, or64 _ _ hp (by omega)]; unfold wrap64; omega)
      | (rw [show ((n : Int) / 1073741824) = ((n / 1073741824 : Nat) : Int) by omega, or64 _ _ hp (by omega)]; unfold wrap64; omega)
      | (rw [show ((n : Int) / 68719476736) = ((n / 68719476736 : Nat) : Int) by omega, or64 _ _ hp (by omega)]; unfold wrap64; omega)
      | (rw [show ((n : Int) / 4398046511104) = ((n / 4398046511104 : Nat) : Int) by omega, or64 _ _ hp (by omega)]; unfold wrap64; omega)
end

end Go.Proofs.Ytdojmmnojpeklaa
