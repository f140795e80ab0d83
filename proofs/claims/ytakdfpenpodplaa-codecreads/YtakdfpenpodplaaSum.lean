/-
  Sum and bytes.Equal.
-/
import Derived.Test.YtakdfpenpodplaaSame
import Derived.Test.YtakdfpenpodplaaCrc
import Derived.Laws.BytesArg
namespace Go.Proofs.Ytakdfpenpodplaa
open Go.RowKit
set_option linter.unusedVariables false

theorem not32 (R : Nat) (h : R < 4294967296) : 4294967295 ^^^ R = 4294967295 - R := by
  apply Nat.eq_of_testBit_eq
  intro i
  rw [Nat.testBit_xor, show (4294967295 : Nat) = 2 ^ 32 - 1 from rfl, Nat.testBit_two_pow_sub_one, show 2 ^ 32 - 1 - R = 2 ^ 32 - (R + 1) from by omega, Nat.testBit_two_pow_sub_succ (show R < 2 ^ 32 from h)]
  by_cases hi : i < 32
  · simp [hi]
  · have : R.testBit i = false := Nat.testBit_lt_two_pow (Nat.lt_of_lt_of_le h (Nat.pow_le_pow_right (n := 2) (by decide) (show 32 ≤ i by omega)))
    simp [hi, this]
theorem not_val (R : Nat) (h : R < 4294967296) : bits .xor .u32 IntKind.u32.max (R : Int) = 4294967295 - (R : Int) := by
  have h1 := u32_xor_nat 4294967295 R (by decide) h
  rw [not32 R h] at h1
  have h2 : IntKind.u32.max = ((4294967295 : Nat) : Int) := by decide
  rw [h2, h1]
  omega
theorem crc_val (Z : Nat) (hZ : Z < 4294967296) : bits .xor .u32 ((Z : Int) / 2) (3988292384 * bits .and .u32 (Z : Int) 1 % 4294967296) = (((Z / 2) ^^^ (3988292384 * (Z % 2)) : Nat) : Int) := by
  have h1 : bits .and .u32 (Z : Int) 1 = ((Z % 2 : Nat) : Int) := by
    have := u32_and_nat Z 1 hZ (by decide)
    rw [Nat.and_one_is_mod] at this
    exact this
  have h2 : Z % 2 = 0 ∨ Z % 2 = 1 := by omega
  have h3 : (3988292384 * ((Z % 2 : Nat) : Int)) % 4294967296 = ((3988292384 * (Z % 2) : Nat) : Int) := by rcases h2 with h2 | h2 <;> rw [h2] <;> rfl
  rw [h1, h3]
  have := u32_xor_nat (Z / 2) (3988292384 * (Z % 2)) (by omega) (by rcases h2 with h2 | h2 <;> rw [h2] <;> omega)
  rw [← this]
  rfl

set_option maxHeartbeats 1000000 in
theorem sum_any (F : Nat → Prop) (a : Option Addr) (n c : Nat) (xs : List Nat) (w : World) (h : Bs w F a n c xs) :
    Calls Try.prog 14 #[.slice a n c] w fun ex w' => ex = .returned (.int .u32 (crc xs : Nat)) ∧ w' = w := by
  have hl := h.len
  have hcap := h.cap
  have hmx := h.max
  have HB : Hid (Bs w F a n c xs) := h
  clear h
  go_enter Try.func14, Try.ntmps14
  go_wp2
  go_loop [3, 9] (fun r i => ∃ k : Nat, k ≤ n ∧ i = .int .i64 k ∧ r = .int .u32 ((xs.take k).foldl crcByte 4294967295 : Nat)) (fun _ i => n - (intOf i).toNat)
  case atStart => exact ⟨0, by omega, rfl, rfl⟩
  case round =>
    obtain ⟨k, hk, rfl, rfl⟩ := hrel
    by_cases hlt : k < n
    · obtain ⟨b, o, rfl, _, hc1⟩ := HB.out.at' k hlt
      obtain ⟨x, hxx⟩ : ∃ x, x = xs.getD k 0 := ⟨_, rfl⟩
      have d1 : w.cell? ⟨b, o + k, none⟩ = some (.int .u8 (x : Nat)) := by rw [hxx]; exact hc1
      have hR := crcReg_lt xs HB.out.lt k
      have hst := crcReg_step xs k (by omega)
      rw [← hxx] at hst
      obtain ⟨R, hRR⟩ : ∃ R, R = (xs.take k).foldl crcByte 4294967295 := ⟨_, rfl⟩
      rw [← hRR] at hR hst ⊢
      have hx2 : x < 256 := by
        have : xs.getD k 0 = xs[k] := by simp [List.getD, show k < xs.length by omega]
        rw [hxx, this]; exact HB.out.lt _ (List.getElem_mem _)
      have e1 : bits .xor .u32 (R : Int) (x : Int) = ((R ^^^ x : Nat) : Int) := u32_xor_nat R x hR (by omega)
      have e0 : IntKind.u32.wrap (x : Int) = (x : Int) := by rw [IntKind.wrap_u32]; omega
      have HST : Hid ((xs.take (k + 1)).foldl crcByte 4294967295 = crcByte R x) := hst
      have hY := xor_lt hR (show x < 4294967296 by omega)
      obtain ⟨Y, hYY⟩ : ∃ Y, Y = R ^^^ x := ⟨_, rfl⟩
      have HYY : Hid (Y = R ^^^ x) := hYY
      rw [← hYY] at e1 hY
      clear hst hc1 hxx hRR hR hYY
      go_wp2
      go_loop [3, 17] (fun r j => ∃ q : Nat, q ≤ 8 ∧ j = .int .i64 q ∧ r = .int .u32 (crcBits q Y : Nat)) (fun _ j => 8 - (intOf j).toNat)
      case atStart => exact ⟨0, by omega, rfl, rfl⟩
      case round =>
        obtain ⟨q, hq, rfl, rfl⟩ := hrel
        by_cases hq8 : q < 8
        · have hZ := crcBits_lt hY q
          obtain ⟨Z, hZZ⟩ : ∃ Z, Z = crcBits q Y := ⟨_, rfl⟩
          have HZ : Hid (crcBits (q + 1) Y = (Z / 2) ^^^ (3988292384 * (Z % 2))) := by show crcBit (crcBits q Y) = _; rw [← hZZ]; rfl
          rw [← hZZ] at hZ ⊢
          clear hZZ
          have e3 := crc_val Z hZ
          go_wp2
          go_round
          case rel =>
            refine ⟨q + 1, by omega, by go_num, ?_⟩
            rw [HZ.out]
          case measure => simp [intOf]; omega
        · have hq8 : q = 8 := by omega
          subst hq8
          have HC : Hid (crcBits 8 Y = crcByte R x) := by rw [HYY.out]; rfl
          go_wp2
          go_round
          case rel =>
            refine ⟨k + 1, by omega, by go_num, ?_⟩
            rw [HST.out, HC.out]
          case measure => simp [intOf]; omega
    · have hkn : k = n := by omega
      subst hkn
      have hR := crcReg_lt xs HB.out.lt k
      have e1 : xs.take k = xs := List.take_of_length_le (by omega)
      rw [e1] at hR ⊢
      have hc : ((crc xs : Nat) : Int) = 4294967295 - ((xs.foldl crcByte 4294967295 : Nat) : Int) := by unfold crc crcReg; omega
      obtain ⟨R, hRR⟩ : ∃ R, R = xs.foldl crcByte 4294967295 := ⟨_, rfl⟩
      rw [← hRR] at hR hc ⊢
      have HC : Hid (((crc xs : Nat) : Int) = 4294967295 - (R : Int)) := hc
      clear hc hRR e1
      go_wp2
      go_ret
      refine ⟨?_, rfl⟩
      rw [HC.out, ← not_val R hR]
      rfl

end Go.Proofs.Ytakdfpenpodplaa
