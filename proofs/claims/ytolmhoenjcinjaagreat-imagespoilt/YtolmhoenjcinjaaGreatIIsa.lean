/-
  isa.Encode and isa.Decode.
-/
import Derived.Test.YtolmhoenjcinjaaGreatIMem
import Derived.WalkKit
import Derived.Handy
import Derived.Below
import Derived.Laws.ResultCell
namespace Go.Proofs.YtolmhoenjcinjaaGreat
open Go.RowKit
set_option linter.unusedVariables false
set_option maxRecDepth 100000

def insV (o a b c n : Int) : Value := .agg #[.int .u8 o, .int .u8 a, .int .u8 b, .int .u8 c, .int .i32 n]
def bytV (o a b c p q r s : Int) : Value := .agg #[.int .u8 o, .int .u8 a, .int .u8 b, .int .u8 c, .int .u8 p, .int .u8 q, .int .u8 r, .int .u8 s]
def encV (o a b c n : Int) : Value := bytV o a b c (n % 4294967296 / 16777216) (n % 4294967296 / 65536 % 256) (n % 4294967296 / 256 % 256) (n % 256)

theorem heap_alloc3_mid (w : World) (x y z : Obj) : (((w.alloc x).alloc y).alloc z).heap[w.heap.size + 1]? = some y := by
  rw [heap_alloc_old _ z (by show w.heap.size + 1 < ((w.heap.push x).push y).size; simp)]
  exact heap_alloc2_new w x y

theorem or_u32 (X Y k : Nat) (hY : Y < 2 ^ k) (hX : X * 2 ^ k + Y < 4294967296) : bits .or .u32 ((X * 2 ^ k : Nat) : Int) (Y : Int) = ((X * 2 ^ k + Y : Nat) : Int) := by
  have h : bits .or .u32 ((X * 2 ^ k : Nat) : Int) (Y : Int) = IntKind.u32.wrap ((((((X * 2 ^ k : Nat) : Int) % 4294967296).toNat ||| (((Y : Nat) : Int) % 4294967296).toNat) : Nat) : Int) := by
    show IntKind.u32.wrap (((BitVec.ofInt 32 _ ||| BitVec.ofInt 32 _).toNat : Nat) : Int) = _
    rw [BitVec.toNat_or, BitVec.toNat_ofInt, BitVec.toNat_ofInt]; rfl
  have e1 : (((X * 2 ^ k : Nat) : Int) % 4294967296).toNat = X * 2 ^ k := by omega
  have e2 : (((Y : Nat) : Int) % 4294967296).toNat = Y := by omega
  rw [h, e1, e2, ← Nat.shiftLeft_eq, ← Nat.shiftLeft_add_eq_or_of_lt hY, Nat.shiftLeft_eq, IntKind.wrap_u32]
  omega
theorem or4 (p q r s : Int) (hp : 0 ≤ p ∧ p < 256) (hq : 0 ≤ q ∧ q < 256) (hr : 0 ≤ r ∧ r < 256) (hs : 0 ≤ s ∧ s < 256) :
    bits .or .u32 (bits .or .u32 (bits .or .u32 (p * 16777216) (q * 65536)) (r * 256)) s = ((p * 256 + q) * 256 + r) * 256 + s := by
  obtain ⟨p, rfl⟩ := Int.eq_ofNat_of_zero_le hp.1
  obtain ⟨q, rfl⟩ := Int.eq_ofNat_of_zero_le hq.1
  obtain ⟨r, rfl⟩ := Int.eq_ofNat_of_zero_le hr.1
  obtain ⟨s, rfl⟩ := Int.eq_ofNat_of_zero_le hs.1
  have a1 := or_u32 p (q * 65536) 24 (by omega) (by omega)
  have a2 := or_u32 (p * 256 + q) (r * 256) 16 (by omega) (by omega)
  have a3 := or_u32 ((p * 256 + q) * 256 + r) s 8 (by omega) (by omega)
  have b1 : bits .or .u32 ((p : Int) * 16777216) ((q : Int) * 65536) = (((p * 256 + q) * 65536 : Nat) : Int) := by
    rw [show (p : Int) * 16777216 = ((p * 2 ^ 24 : Nat) : Int) by omega, show (q : Int) * 65536 = ((q * 65536 : Nat) : Int) by omega, a1]; omega
  have b2 : bits .or .u32 (((p * 256 + q) * 65536 : Nat) : Int) ((r : Int) * 256) = ((((p * 256 + q) * 256 + r) * 256 : Nat) : Int) := by
    rw [show (((p * 256 + q) * 65536 : Nat) : Int) = (((p * 256 + q) * 2 ^ 16 : Nat) : Int) by omega, show (r : Int) * 256 = ((r * 256 : Nat) : Int) by omega, a2]; omega
  rw [b1, b2, show ((((p * 256 + q) * 256 + r) * 256 : Nat) : Int) = ((((p * 256 + q) * 256 + r) * 2 ^ 8 : Nat) : Int) by omega, a3]; omega

set_option maxHeartbeats 2000000 in
theorem encode_any (o a b c n : Int) (hn : -2147483648 ≤ n ∧ n ≤ 2147483647) (w : World) :
    Calls Tryz.prog 90 #[insV o a b c n] w fun ex w' => ex = .returned (encV o a b c n) ∧ Below w.heap.size w w' := by
  unfold insV encV bytV
  obtain ⟨h1, h2⟩ := hn
  go_enter Tryz.func90, Tryz.ntmps90
  go_wp2
  refine bodyPost_ret (results_cell_row rfl _ _ (w.heap.size + 1) 146 _ (0, 0) _ rfl (heap_alloc2_new _ _ _) Tryz.underlying146 rfl (by kernel_rfl)) rfl ?_
  exact ⟨rfl, ((Below.refl _ w).alloc (Nat.le_refl _) _).alloc (by simp) _⟩

def decN (p q r s : Int) : Int := wrap32 (((p * 256 + q) * 256 + r) * 256 + s)

set_option maxHeartbeats 2000000 in
theorem decode_any (o a b c p q r s : Int) (hp : 0 ≤ p ∧ p < 256) (hq : 0 ≤ q ∧ q < 256) (hr : 0 ≤ r ∧ r < 256) (hs : 0 ≤ s ∧ s < 256) (w : World) :
    Calls Tryz.prog 152 #[bytV o a b c p q r s] w fun ex w' => ex = .returned (insV o a b c (decN p q r s)) ∧ Below w.heap.size w w' := by
  have e := or4 p q r s hp hq hr hs
  unfold insV bytV decN
  rw [← e]
  clear e
  go_enter Tryz.func152, Tryz.ntmps152
  go_wp2
  refine bodyPost_ret (results_cell_row rfl _ _ (w.heap.size + 1) 122 _ (0, 0) _ rfl (heap_alloc2_new _ _ _) Tryz.underlying122 rfl (by kernel_rfl)) rfl ?_
  exact ⟨rfl, ((Below.refl _ w).alloc (Nat.le_refl _) _).alloc (by simp) _⟩

end Go.Proofs.YtolmhoenjcinjaaGreat
