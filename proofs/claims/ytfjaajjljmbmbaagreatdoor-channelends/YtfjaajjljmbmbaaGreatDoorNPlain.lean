/-
  Plain mathematics of int64: the sign of Go's '&' and '^', and what a wrap does. No Go text in sight.
-/
import Derived.Laws.Entries
import Derived.RowKit
import Derived.IntWalk
namespace Go.Proofs.YtfjaajjljmbmbaaGreatDoor.Plain
open Go Go.RowKit

/-- an int64's bounds -/
def I64 (x : Int) : Prop := -9223372036854775808 ≤ x ∧ x ≤ 9223372036854775807

theorem wrap_bv (v : BitVec 64) : IntKind.i64.wrap (v.toNat : Int) = v.toInt := by
  have := v.isLt
  rw [IntWalk.i64_left, BitVec.toInt_eq_toNat_cond]
  unfold wrap64
  simp only [Nat.reducePow] at *
  split <;> omega

theorem bv_msb (x : Int) (h : I64 x) : (BitVec.ofInt 64 x).msb = decide (x < 0) := by
  rw [BitVec.msb_eq_toInt, BitVec.toInt_ofInt]
  have : x.bmod (2 ^ 64) = x := by
    unfold I64 at h; unfold Int.bmod; simp only [Nat.reducePow]; split <;> omega
  rw [this]

theorem bits_of (v : BitVec 64) : IntKind.i64.wrap (v.toNat : Int) < 0 ↔ v.msb = true := by
  rw [wrap_bv, BitVec.msb_eq_toInt]; simp

theorem and_neg (x y : Int) (hx : I64 x) (hy : I64 y) : bits .and .i64 x y < 0 ↔ (x < 0 ∧ y < 0) := by
  show IntKind.i64.wrap ((BitVec.ofInt 64 x &&& BitVec.ofInt 64 y).toNat : Int) < 0 ↔ _
  rw [bits_of, BitVec.msb_and, bv_msb x hx, bv_msb y hy]; simp

theorem xor_neg (x y : Int) (hx : I64 x) (hy : I64 y) : bits .xor .i64 x y < 0 ↔ ¬ (x < 0 ↔ y < 0) := by
  show IntKind.i64.wrap ((BitVec.ofInt 64 x ^^^ BitVec.ofInt 64 y).toNat : Int) < 0 ↔ _
  rw [bits_of, BitVec.msb_xor, bv_msb x hx, bv_msb y hy]
  by_cases h1 : x < 0 <;> by_cases h2 : y < 0 <;> simp [h1, h2]

theorem bits_I64 (op : BinOp) (x y : Int) : I64 (bits op .i64 x y) := by
  unfold bits; simp only [IntWalk.i64_left]; unfold wrap64 I64; omega

theorem wrap64_I64 (n : Int) : I64 (wrap64 n) := by unfold wrap64 I64; omega

theorem sums (a b s : Int) (ha : I64 a) (hb : I64 b) (hs : I64 s) : bits .and .i64 (bits .xor .i64 a s) (bits .xor .i64 b s) < 0 ↔ (¬ (a < 0 ↔ s < 0) ∧ ¬ (b < 0 ↔ s < 0)) := by
  rw [and_neg _ _ (bits_I64 _ _ _) (bits_I64 _ _ _), xor_neg a s ha hs, xor_neg b s hb hs]

theorem add_fits (a b : Int) (ha : I64 a) (hb : I64 b) (h : I64 (a + b)) : ¬ bits .and .i64 (bits .xor .i64 a (a + b)) (bits .xor .i64 b (a + b)) < 0 := by
  rw [sums a b _ ha hb h]; unfold I64 at *; omega

theorem add_wraps (a b : Int) (ha : I64 a) (hb : I64 b) (h : ¬ I64 (a + b)) : bits .and .i64 (bits .xor .i64 a (wrap64 (a + b))) (bits .xor .i64 b (wrap64 (a + b))) < 0 := by
  rw [sums a b _ ha hb (wrap64_I64 _)]; unfold I64 wrap64 at *; omega

theorem sub_fits (a b : Int) (ha : I64 a) (hb : I64 b) (h : I64 (a - b)) : ¬ bits .and .i64 (bits .xor .i64 a b) (bits .xor .i64 a (a - b)) < 0 := by
  rw [and_neg _ _ (bits_I64 _ _ _) (bits_I64 _ _ _), xor_neg a b ha hb, xor_neg a _ ha h]; unfold I64 at *; omega

theorem sub_wraps (a b : Int) (ha : I64 a) (hb : I64 b) (h : ¬ I64 (a - b)) : bits .and .i64 (bits .xor .i64 a b) (bits .xor .i64 a (wrap64 (a - b))) < 0 := by
  rw [and_neg _ _ (bits_I64 _ _ _) (bits_I64 _ _ _), xor_neg a b ha hb, xor_neg a _ ha (wrap64_I64 _)]; unfold I64 wrap64 at *; omega

/-- num.Later -/
def laterF (t n : Int) : Int := if t < 0 ∨ 1099511627776 ≤ t ∨ n < 0 ∨ 1099511627776 - t ≤ n then -1 else t + n
/-- num.Add: the number -/
def addV (a b : Int) : Int := if bits .and .i64 (bits .xor .i64 a (wrap64 (a + b))) (bits .xor .i64 b (wrap64 (a + b))) < 0 then 0 else wrap64 (a + b)
/-- num.Add: whether there is one -/
def addB (a b : Int) : Bool := if bits .and .i64 (bits .xor .i64 a (wrap64 (a + b))) (bits .xor .i64 b (wrap64 (a + b))) < 0 then false else true
def subV (a b : Int) : Int := if bits .and .i64 (bits .xor .i64 a b) (bits .xor .i64 a (wrap64 (a - b))) < 0 then 0 else wrap64 (a - b)
def subB (a b : Int) : Bool := if bits .and .i64 (bits .xor .i64 a b) (bits .xor .i64 a (wrap64 (a - b))) < 0 then false else true

theorem laterF_no {t n : Int} (h : t < 0 ∨ 1099511627776 ≤ t ∨ n < 0 ∨ 1099511627776 ≤ t + n) : laterF t n = -1 := if_pos (by omega)
theorem laterF_yes {t n : Int} (h1 : 0 ≤ t) (h2 : 0 ≤ n) (h3 : t + n < 1099511627776) : laterF t n = t + n := if_neg (by omega)

theorem wrap_in {n : Int} (h : I64 n) : wrap64 n = n := IntWalk.wrap64_in n h
theorem addV_yes {a b : Int} (ha : I64 a) (hb : I64 b) (h : I64 (a + b)) : addV a b = a + b := by
  unfold addV; rw [wrap_in h]; exact if_neg (add_fits a b ha hb h)
theorem addB_yes {a b : Int} (ha : I64 a) (hb : I64 b) (h : I64 (a + b)) : addB a b = true := by
  unfold addB; rw [wrap_in h]; exact if_neg (add_fits a b ha hb h)
theorem addV_no {a b : Int} (ha : I64 a) (hb : I64 b) (h : ¬ I64 (a + b)) : addV a b = 0 := if_pos (add_wraps a b ha hb h)
theorem addB_no {a b : Int} (ha : I64 a) (hb : I64 b) (h : ¬ I64 (a + b)) : addB a b = false := if_pos (add_wraps a b ha hb h)
theorem subV_yes {a b : Int} (ha : I64 a) (hb : I64 b) (h : I64 (a - b)) : subV a b = a - b := by
  unfold subV; rw [wrap_in h]; exact if_neg (sub_fits a b ha hb h)
theorem subB_yes {a b : Int} (ha : I64 a) (hb : I64 b) (h : I64 (a - b)) : subB a b = true := by
  unfold subB; rw [wrap_in h]; exact if_neg (sub_fits a b ha hb h)
theorem subV_no {a b : Int} (ha : I64 a) (hb : I64 b) (h : ¬ I64 (a - b)) : subV a b = 0 := if_pos (sub_wraps a b ha hb h)
theorem subB_no {a b : Int} (ha : I64 a) (hb : I64 b) (h : ¬ I64 (a - b)) : subB a b = false := if_pos (sub_wraps a b ha hb h)

theorem wf_I64 {x : Int} (h : (Lit.int .i64 x).wf = true) : I64 x := by
  simp [Lit.wf, IntKind.min, IntKind.max, IntKind.signed, IntKind.bits] at h
  unfold I64; omega

end Go.Proofs.YtfjaajjljmbmbaaGreatDoor.Plain
