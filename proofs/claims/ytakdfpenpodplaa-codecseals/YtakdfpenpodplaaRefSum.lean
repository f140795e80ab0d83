/-
  The document's Sum and Number.
-/
import Derived.Test.YtakdfpenpodplaaUnseal
namespace Go.Proofs.Ytakdfpenpodplaa
open Go.RowKit
set_option linter.unusedVariables false

def refBit (S b : Nat) : Nat := (S / 2) ^^^ (if S % 2 ≠ b then 3988292384 else 0)
def refBits : Nat → Nat → Nat → Nat
  | 0, s, _ => s
  | k + 1, s, x => refBit (refBits k s x) (x / 2 ^ k % 2)
theorem xor_div2 (a b : Nat) : (a ^^^ b) / 2 = (a / 2) ^^^ (b / 2) := by
  have := Nat.shiftRight_xor_distrib (a := a) (b := b) (i := 1)
  simpa [Nat.shiftRight_eq_div_pow] using this
theorem xor_mod2 (a b : Nat) : (a ^^^ b) % 2 = (a % 2 + b % 2) % 2 := by
  have h := Nat.testBit_xor a b 0
  rw [Nat.testBit_zero, Nat.testBit_zero, Nat.testBit_zero] at h
  have ha : a % 2 = 0 ∨ a % 2 = 1 := by omega
  have hb : b % 2 = 0 ∨ b % 2 = 1 := by omega
  have hc : (a ^^^ b) % 2 = 0 ∨ (a ^^^ b) % 2 = 1 := by omega
  rcases ha with ha | ha <;> rcases hb with hb | hb <;> rcases hc with hc | hc <;> rw [ha, hb, hc] at h <;> simp at h <;> omega
theorem ref_crc (s x : Nat) : ∀ k, crcBits k (s ^^^ x) = refBits k s x ^^^ (x / 2 ^ k) := by
  intro k
  induction k with
  | zero => simp [crcBits, refBits]
  | succ k ih =>
    show crcBit (crcBits k (s ^^^ x)) = refBit (refBits k s x) (x / 2 ^ k % 2) ^^^ (x / 2 ^ (k + 1))
    rw [ih]
    obtain ⟨S, hS⟩ : ∃ S, S = refBits k s x := ⟨_, rfl⟩
    obtain ⟨y, hy⟩ : ∃ y, y = x / 2 ^ k := ⟨_, rfl⟩
    rw [← hS, ← hy, show x / 2 ^ (k + 1) = y / 2 from by rw [hy, Nat.pow_succ, Nat.div_div_eq_div_mul]]
    unfold crcBit refBit
    rw [xor_div2, xor_mod2]
    have h1 : 3988292384 * ((S % 2 + y % 2) % 2) = if S % 2 ≠ y % 2 then 3988292384 else 0 := by
      by_cases h : S % 2 ≠ y % 2
      · rw [if_pos h, show (S % 2 + y % 2) % 2 = 1 from by omega]
      · rw [if_neg h, show (S % 2 + y % 2) % 2 = 0 from by omega]
    rw [h1, Nat.xor_assoc, Nat.xor_comm (y / 2), ← Nat.xor_assoc]
theorem ref_byte (s x : Nat) (hx : x < 256) : refBits 8 s x = crcByte s x := by
  have := ref_crc s x 8
  rw [show x / 2 ^ 8 = 0 from by omega, Nat.xor_zero] at this
  exact this.symm
theorem refBit_lt {S b : Nat} (h : S < 4294967296) : refBit S b < 4294967296 := by
  unfold refBit
  refine xor_lt (by omega) ?_
  split <;> omega
theorem refBits_lt {s x : Nat} (h : s < 4294967296) : ∀ k, refBits k s x < 4294967296
  | 0 => h
  | k + 1 => refBit_lt (refBits_lt h k)

set_option maxHeartbeats 2000000 in
theorem refSum_any (F : Nat → Prop) (a : Option Addr) (n c : Nat) (xs : List Nat) (w : World) (h : Bs w F a n c xs) :
    Calls Try.prog 15 #[.slice a n c] w fun ex w' => ex = .returned (.int .u32 (crc xs : Nat)) ∧ w' = w := by
  have hl := h.len
  have HB : Hid (Bs w F a n c xs) := h
  have HL : Hid (xs.length = n) := hl
  have hcap := h.cap
  have hmx := h.max
  clear h hl
  go_enter Try.func15, Try.ntmps15
  go_wp2
  go_loop [3, 4] (fun r i => ∃ k : Nat, k ≤ n ∧ i = .int .i64 k ∧ r = .int .u32 ((xs.take k).foldl crcByte 4294967295 : Nat)) (fun _ i => n - (intOf i).toNat)
  case atStart => exact ⟨0, by omega, rfl, rfl⟩
  case round =>
    obtain ⟨k, hk, rfl, rfl⟩ := hrel
    by_cases hlt : k < n
    · obtain ⟨b, o, rfl, _, hc1⟩ := HB.out.at' k hlt
      obtain ⟨x, hxx⟩ : ∃ x, x = xs.getD k 0 := ⟨_, rfl⟩
      have d1 : w.cell? ⟨b, o + k, none⟩ = some (.int .u8 (x : Nat)) := by rw [hxx]; exact hc1
      have hR := crcReg_lt xs HB.out.lt k
      have hst := crcReg_step xs k (by rw [HL.out]; exact hlt)
      rw [← hxx] at hst
      obtain ⟨R, hRR⟩ : ∃ R, R = (xs.take k).foldl crcByte 4294967295 := ⟨_, rfl⟩
      rw [← hRR] at hR hst ⊢
      have hx2 : x < 256 := by
        have : xs.getD k 0 = xs[k]'(by rw [HL.out]; exact hlt) := by simp [List.getD, show k < xs.length by rw [HL.out]; exact hlt]
        rw [hxx, this]; exact HB.out.lt _ (List.getElem_mem _)
      have HST : Hid ((xs.take (k + 1)).foldl crcByte 4294967295 = crcByte R x) := hst
      have HRX : Hid (R < 4294967296 ∧ x < 256) := ⟨hR, hx2⟩
      clear hst hc1 hxx hRR hR
      go_wp2
      go_loop [3, 5] (fun r j => ∃ q : Nat, q ≤ 8 ∧ j = .int .i64 q ∧ r = .int .u32 (refBits q R x : Nat)) (fun _ j => 8 - (intOf j).toNat)
      case atStart => exact ⟨0, by omega, rfl, rfl⟩
      case round =>
        obtain ⟨q, hq, rfl, rfl⟩ := hrel
        by_cases hq8 : q < 8
        · have hZ := refBits_lt (x := x) HRX.out.1 q
          obtain ⟨Z, hZZ⟩ : ∃ Z, Z = refBits q R x := ⟨_, rfl⟩
          have HZ : Hid (refBits (q + 1) R x = refBit Z (x / 2 ^ q % 2)) := by show refBit (refBits q R x) (x / 2 ^ q % 2) = _; rw [← hZZ]
          rw [← hZZ] at hZ ⊢
          obtain ⟨y, hy⟩ : ∃ y, y = x / 2 ^ q := ⟨_, rfl⟩
          have e1 : (x : Int) / 2 ^ q = (y : Int) := by rw [hy]; simp
          have hy2 : y < 256 := by rw [hy]; exact Nat.lt_of_le_of_lt (Nat.div_le_self _ _) hx2
          rw [← hy] at HZ
          have e2 : IntKind.u32.wrap (y : Int) = (y : Int) := by rw [IntKind.wrap_u32]; omega
          clear hZZ hy
          have e4 : bits .xor .u32 ((Z : Int) / 2) 3988292384 = (((Z / 2) ^^^ 3988292384 : Nat) : Int) := u32_xor_nat (Z / 2) 3988292384 (by omega) (by decide)
          by_cases hun : Z % 2 = y % 2
          · have hb : ((Z : Int) % 2 == (y : Int) % 2) = true := by simp; omega
            have hb2 : ((Z : Int) % 2 != (y : Int) % 2) = false := by simp; omega
            have HUN : Hid (Z % 2 = y % 2) := hun
            clear hun
            go_wp2
            go_round
            case rel =>
              refine ⟨q + 1, by omega, by go_num, ?_⟩
              have hun := HUN.out
              rw [HZ.out]
              unfold refBit
              rw [if_neg (by omega), Nat.xor_zero]
              first | rfl | (simp; done)
            case measure => simp [intOf]; omega
          · have hb : ((Z : Int) % 2 == (y : Int) % 2) = false := by simp; omega
            have hb2 : ((Z : Int) % 2 != (y : Int) % 2) = true := by simp; omega
            have HUN : Hid (Z % 2 ≠ y % 2) := hun
            clear hun
            go_wp2
            go_round
            case rel =>
              refine ⟨q + 1, by omega, by go_num, ?_⟩
              rw [HZ.out]
              unfold refBit
              rw [if_pos HUN.out]
            case measure => simp [intOf]; omega
        · have hq8 : q = 8 := by omega
          subst hq8
          have HC : Hid (refBits 8 R x = crcByte R x) := ref_byte R x HRX.out.2
          go_wp2
          go_round
          case rel =>
            refine ⟨k + 1, by omega, by go_num, ?_⟩
            rw [HST.out, HC.out]
          case measure => simp [intOf]; omega
    · have hkn : k = n := by omega
      subst hkn
      have hR := crcReg_lt xs HB.out.lt k
      have e1 : xs.take k = xs := List.take_of_length_le (by rw [HL.out]; omega)
      rw [e1] at hR ⊢
      have hc : ((crc xs : Nat) : Int) = 4294967295 - ((xs.foldl crcByte 4294967295 : Nat) : Int) := by unfold crc crcReg; omega
      obtain ⟨R, hRR⟩ : ∃ R, R = xs.foldl crcByte 4294967295 := ⟨_, rfl⟩
      rw [← hRR] at hR hc ⊢
      have HC : Hid (((crc xs : Nat) : Int) = 4294967295 - (R : Int)) := hc
      have e2 : IntKind.u32.wrap (4294967295 - (R : Int)) = 4294967295 - (R : Int) := by rw [IntKind.wrap_u32]; omega
      clear hc hRR e1
      go_wp2
      go_ret
      refine ⟨?_, rfl⟩
      rw [HC.out]
      first | rfl | (simp; omega)

/-- the document's bytes of a number -/
theorem number_ref_any (x n : Nat) (w : World) (hx : x < 18446744073709551616) (hn : n ≤ 8) :
    Calls Try.prog 53 #[.int .u64 x, .int .i64 n] w fun ex w' => ∃ v, ex = .returned v ∧ w'.ownsRow w.heap.size 5 1 v n ((be x n).map bv) ∧ Below w.heap.size w w' := by
  obtain ⟨i0, hi, hz0, hz1, hz2⟩ := info_parts Try.info5
  go_enter Try.func53, Try.ntmps53
  go_wp2
  go_loopw [5, 6] (fun l q wr => ∃ k : Nat, k ≤ n ∧ q = .int .i64 ((n : Int) - 1 - k) ∧ wr.ownsRow w.heap.size 5 1 l k (((be x n).take k).map bv) ∧ Below w.heap.size w wr) (fun _ i _ => (intOf i + 1).toNat)
  case atStart => exact ⟨0, by omega, by go_num, World.ownsRow_nil _ _ _ _, Below.refl _ _⟩
  case round =>
    obtain ⟨k, hk, rfl, hown, hbel⟩ := hrel
    have HOW : Hid (wr.ownsRow w.heap.size 5 1 u5 k (((be x n).take k).map bv)) := hown
    have HBE : Hid (Below w.heap.size w wr) := hbel
    have hs := hbel.size
    by_cases hlt : k < n
    · obtain ⟨s, hs2⟩ : ∃ s : Nat, s = 8 * (n - 1 - k) := ⟨_, rfl⟩
      obtain ⟨y, hy⟩ : ∃ y : Nat, y = x / 2 ^ s % 256 := ⟨_, rfl⟩
      have e1 : IntKind.i64.wrap (8 * ((n : Int) - 1 - k)) = (s : Int) := by rw [IntKind.wrap_i64]; omega
      have e1' : 8 * ((n : Int) - 1 - k) = (s : Int) := by omega
      have e3 : IntKind.u8.wrap ((x : Int) / 2 ^ min s 64) = (y : Int) := by rw [hy, IntKind.wrap_u8, Nat.min_eq_left (by omega)]; simp
      have e3' : (x : Int) / 2 ^ s % 256 = (y : Int) := by rw [hy]; simp
      have HT : Hid ((be x n).take (k + 1) = (be x n).take k ++ [y]) := by rw [hy, hs2]; exact be_take x n k hlt
      clear hown hbel hs2 hy
      go_wp2_with (at_builtin; (refine wpList_append_own _ rfl _ _ 22 rfl w.heap.size 5 i0 (.int .u8 0) 1 1 Try.underlying22 hi hz0 hz1 hz2 rfl (by decide) _ _ _ rfl (HOW.out.alloc _) ⟨wr.heap.size, 0, none⟩ 1 1 [.int .u8 y] rfl rfl (cell_one_new _ _ _) (one_one _ _) (by unfold maxLen; omega) (by omega) (by simp; omega) ?_); intro v1 w1 own1 grow1 _)
      have hb1 : Below w.heap.size w w1 := (HBE.out.alloc hs _).grown grow1 (by simp; omega) (fun j hj => (HOW.out.lt j hj).1)
      have own2 : w1.ownsRow w.heap.size 5 1 v1 (k + 1) (((be x n).take (k + 1)).map bv) := by rw [HT.out, List.map_append]; exact own1
      clear grow1 own1
      go_wp2
      go_roundw
      case rel => exact ⟨k + 1, by omega, by go_num, own2, hb1⟩
      case measure => simp [intOf]; omega
    · have hkn : k = n := by omega
      subst hkn
      rw [be_all _ _ _ (Nat.le_refl _)] at hown
      clear HOW
      have HOW : Hid (wr.ownsRow w.heap.size 5 1 u5 k ((be x k).map bv)) := hown
      clear hown hbel
      go_wp2
      go_ret
      exact ⟨_, rfl, HOW.out, HBE.out⟩

end Go.Proofs.Ytakdfpenpodplaa
