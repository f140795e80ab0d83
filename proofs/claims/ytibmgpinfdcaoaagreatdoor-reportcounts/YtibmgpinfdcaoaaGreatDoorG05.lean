/-
  One text: CTab, NPlain.
-/
import Derived.Test.YtibmgpinfdcaoaaGreatDoorG04
import Derived.Laws.Entries
import Derived.RowKit
import Derived.IntWalk
namespace Go.Proofs.YtibmgpinfdcaoaaGreatDoor
open Go.RowKit
set_option linter.unusedVariables false
set_option maxRecDepth 100000

theorem findsSv_alone (err : Int) (k : Nat) (caps : Array Value) (x : Srv) (aa : Option Addr) (an ac : Nat) (w : World) (hen : Enters Tryz.prog k) (b : Bool)
    (hc : ∀ w', Kept No w w' → Calls Tryz.prog k (#[x.v] ++ caps) w' fun e w'' => e = .returned (.bool b) ∧ Kept No w' w'') :
    Calls Tryz.prog 84 #[.agg #[.int .i64 err, .func (.func k) #[] caps, .nilFunc, .nilFunc], x.v, .slice aa an ac] w fun e w' => e = .returned (.int .i64 (if b then 0 else err)) ∧ Kept No w w' := by
  cases b
  · exact findsSv_alone_false err k caps x.p x.b x.o x.q aa an ac w hen hc
  · exact findsSv_alone_true err k caps x.p x.b x.o x.q aa an ac w hen hc
theorem findsSv_behind (err : Int) (k : Nat) (caps : Array Value) (x : Srv) (aa : Option Addr) (an ac : Nat) (w : World) (hen : Enters Tryz.prog k) (b : Bool)
    (hc : ∀ w', Kept No w w' → Calls Tryz.prog k (#[x.v, .slice aa an ac] ++ caps) w' fun e w'' => e = .returned (.bool b) ∧ Kept No w' w'') :
    Calls Tryz.prog 84 #[.agg #[.int .i64 err, .nilFunc, .func (.func k) #[] caps, .nilFunc], x.v, .slice aa an ac] w fun e w' => e = .returned (.int .i64 (if b then 0 else err)) ∧ Kept No w w' := by
  cases b
  · exact findsSv_behind_false err k caps x.p x.b x.o x.q aa an ac w hen hc
  · exact findsSv_behind_true err k caps x.p x.b x.o x.q aa an ac w hen hc
theorem findsSl_alone (err : Int) (k : Nat) (caps : Array Value) (la : Option Addr) (ln lc : Nat) (aa : Option Addr) (an ac : Nat) (w : World) (hen : Enters Tryz.prog k) (b : Bool)
    (hc : ∀ w', Kept No w w' → Calls Tryz.prog k (#[.slice la ln lc] ++ caps) w' fun e w'' => e = .returned (.bool b) ∧ Kept No w' w'') :
    Calls Tryz.prog 91 #[.agg #[.int .i64 err, .func (.func k) #[] caps, .nilFunc, .nilFunc], .slice la ln lc, .slice aa an ac] w fun e w' => e = .returned (.int .i64 (if b then 0 else err)) ∧ Kept No w w' := by
  cases b
  · exact findsSl_alone_false err k caps la ln lc aa an ac w hen hc
  · exact findsSl_alone_true err k caps la ln lc aa an ac w hen hc

/-- the rows of servers -/
def rsS : Nat → Rw
  | 0 => ⟨101, .func (.func 85) #[] #[], .nilFunc, .nilFunc, rfl, rfl, rfl⟩
  | 1 => ⟨101, .func (.func 87) #[] #[], .nilFunc, .nilFunc, rfl, rfl, rfl⟩
  | 2 => ⟨101, .func (.func 88) #[] #[], .nilFunc, .nilFunc, rfl, rfl, rfl⟩
  | 3 => ⟨101, .func (.func 89) #[] #[], .nilFunc, .nilFunc, rfl, rfl, rfl⟩
  | _ => ⟨101, .nilFunc, .func (.func 90) #[] #[], .nilFunc, rfl, rfl, rfl⟩
def bS (xs : List Srv) (i : Nat) : Nat → Bool
  | 0 => inB (xs.getD i ⟨0, 0, 0, 0⟩).p 1 1048576
  | 1 => inB (xs.getD i ⟨0, 0, 0, 0⟩).b 1 (xs.getD i ⟨0, 0, 0, 0⟩).p
  | 2 => inB (xs.getD i ⟨0, 0, 0, 0⟩).o 0 (wrap64 ((xs.getD i ⟨0, 0, 0, 0⟩).p - 1))
  | 3 => inB (xs.getD i ⟨0, 0, 0, 0⟩).q 0 255
  | _ => !decide (0 ≤ idxF (xs.take i) (xs.getD i ⟨0, 0, 0, 0⟩).q i)
/-- the cells of a table of five rows and of one -/
theorem table5 (w : World) : Calls Tryz.prog 66 #[] w fun e w' => ∃ tb, e = .returned (.slice (some ⟨tb, 0, none⟩) 5 5) ∧ Tb w' tb 5 rsS ∧ Kept No w w' := by
  have HK : Hid (∀ o, Kept No w (w.alloc o)) := fun o => (Kept.refl No w).alloc o
  go_enter Tryz.func66, Tryz.ntmps66
  go_wp2
  go_ret
  refine ⟨_, rfl, ?_, HK.out _⟩
  intro j hj
  match j, hj with
  | 0, _ => exact ⟨by simp [rsS], by simp [rsS], by simp [rsS], by simp [rsS]⟩
  | 1, _ => exact ⟨by simp [rsS], by simp [rsS], by simp [rsS], by simp [rsS]⟩
  | 2, _ => exact ⟨by simp [rsS], by simp [rsS], by simp [rsS], by simp [rsS]⟩
  | 3, _ => exact ⟨by simp [rsS], by simp [rsS], by simp [rsS], by simp [rsS]⟩
  | 4, _ => exact ⟨by simp [rsS], by simp [rsS], by simp [rsS], by simp [rsS]⟩
def rsL : Nat → Rw
  | _ => ⟨100, .func (.func 83) #[] #[], .nilFunc, .nilFunc, rfl, rfl, rfl⟩
theorem table1 (w : World) : Calls Tryz.prog 64 #[] w fun e w' => ∃ tb, e = .returned (.slice (some ⟨tb, 0, none⟩) 1 1) ∧ Tb w' tb 1 rsL ∧ Kept No w w' := by
  have HK : Hid (∀ o, Kept No w (w.alloc o)) := fun o => (Kept.refl No w).alloc o
  go_enter Tryz.func64, Tryz.ntmps64
  go_wp2
  go_ret
  refine ⟨_, rfl, ?_, HK.out _⟩
  intro j hj
  match j, hj with
  | 0, _ => exact ⟨by simp [rsL], by simp [rsL], by simp [rsL], by simp [rsL]⟩

/-- the first server that may not be -/
def servF (xs : List Srv) (n : Nat) : Option (Int × Int) := eachF (fun i => rowsF (fun j => if bS xs i j then 0 else 101) 5) 1 n
def findF (xs : List Srv) (n : Nat) : Option (Int × Int) := if n ≤ 32 then servF xs n else some (100, 0)

theorem each_servers (F : Nat → Prop) (a : Option Addr) (n c : Nat) (xs : List Srv) (tb : Nat) (w : World) (h : Sv w F a n c xs) (hT : Tb w tb 5 rsS) :
    Calls Tryz.prog 65 #[.slice a n c, .int .i64 1, .slice (some ⟨tb, 0, none⟩) 5 5] w fun e w' => e = .returned (fv (servF xs n)) ∧ Kept No w w' := by
  refine eachSv F 1 a n c xs tb 5 5 rsS (fun i j => if bS xs i j then 0 else 101) w h (by omega) hT (by omega) (by omega) ?_
  intro i j w' hi hj hw
  match j, hj with
  | 0, _ => exact findsSv_alone 101 _ #[] _ a i c w' (enters_of Tryz.func85 (by kernel_rfl) rfl) _ (fun w2 _ => srow1 _ w2)
  | 1, _ => exact findsSv_alone 101 _ #[] _ a i c w' (enters_of Tryz.func87 (by kernel_rfl) rfl) _ (fun w2 _ => srow2 _ w2)
  | 2, _ => exact findsSv_alone 101 _ #[] _ a i c w' (enters_of Tryz.func88 (by kernel_rfl) rfl) _ (fun w2 _ => srow3 _ w2)
  | 3, _ => exact findsSv_alone 101 _ #[] _ a i c w' (enters_of Tryz.func89 (by kernel_rfl) rfl) _ (fun w2 _ => srow4 _ w2)
  | 4, _ => exact findsSv_behind 101 _ #[] _ a i c w' (enters_of Tryz.func90 (by kernel_rfl) rfl) _ (fun w2 hw2 => srow5 F a i c (xs.take i) _ w2 (((h.keep hw).keep hw2).take i (by omega)))

theorem whole_any (la : Option Addr) (ln lc tb m : Nat) (rs : Nat → Rw) (E : Nat → Int) (w : World) (hm : m ≤ 1000) (hT : Tb w tb m rs)
    (hE : ∀ j w' aa, j < m → Kept No w w' → Calls Tryz.prog 91 #[(rs j).v, .slice la ln lc, .slice aa 0 1] w' fun e w'' => e = .returned (.int .i64 (E j)) ∧ Kept No w' w'') :
    Calls Tryz.prog 51 #[.slice la ln lc, .slice (some ⟨tb, 0, none⟩) m m] w fun e w' => e = .returned (fv (if rowsF E m = 0 then none else some (rowsF E m, 0))) ∧ Kept No w w' := by
  have HK : Hid (Kept No w (w.alloc (.cells #[.slice la ln lc] 22))) := (Kept.refl No w).alloc _
  have hc := eachSl (fun _ => True) 0 la ln lc w.heap.size tb m m rs (fun _ j => E j) (w.alloc (.cells #[.slice la ln lc] 22)) (by simp) hm (hT.kept HK.out) (by omega) (by omega) (fun i j w' hi hj hw => by
    obtain rfl : i = 0 := by omega
    exact hE j w' _ hj (HK.out.trans hw (fun _ h => h.elim)))
  have e1 : eachF (fun i => rowsF E m) 0 1 = (if rowsF E m = 0 then none else some (rowsF E m, 0)) := by
    simp [eachF]
  rw [e1] at hc
  clear hE hT
  generalize (if rowsF E m = 0 then none else some (rowsF E m, (0 : Int))) = z at *
  go_enter Tryz.func51, Tryz.ntmps51
  go_wp2_with (go_at_call 67; refine hc.mono ?_; rintro e w' ⟨rfl, hk2⟩; have HW6 : Hid (Kept No w w') := HK.out.trans hk2 (fun _ h => h.elim); clear hk2)
  go_ret
  exact ⟨rfl, HW6.out⟩

theorem fv_neq (o : Option (Int × Int)) (w : World) : (binOp .neq 67 (fv o) .nilIface).run Tryz.prog w = .ok (.bool o.isSome) w := by
  cases o
  · kernel_rfl
  · rename_i p
    obtain ⟨x, y⟩ := p
    kernel_rfl

set_option maxHeartbeats 2000000 in
theorem findServer_any (F : Nat → Prop) (a : Option Addr) (n c : Nat) (xs : List Srv) (w : World) (h : Sv w F a n c xs) :
    Calls Tryz.prog 50 #[.slice a n c] w fun e w' => e = .returned (fv (findF xs n)) ∧ Kept No w w' := by
  have hn : n ≤ 9223372036854775807 := Nat.le_trans h.cap h.max
  have H1 : Hid (∀ w', Kept No w w' → ∀ tb, Tb w' tb 1 rsL → Calls Tryz.prog 51 #[.slice a n c, .slice (some ⟨tb, 0, none⟩) 1 1] w' fun e w'' => e = .returned (fv (if n ≤ 32 then none else some (100, 0))) ∧ Kept No w' w'') := fun w' hw tb hT => by
    have := whole_any a n c tb 1 rsL (fun _ => if decide (n ≤ 32) then 0 else 100) w' (by omega) hT (fun j w2 aa hj hw2 => findsSl_alone 100 _ #[] a n c aa 0 1 w2 (enters_of Tryz.func83 (by kernel_rfl) rfl) _ (fun w3 _ => lrow1 a n c w3 hn))
    by_cases h32 : n ≤ 32
    · simpa [rowsF, h32] using this
    · simpa [rowsF, h32] using this
  have H2 : Hid (∀ w', Kept No w w' → ∀ tb, Tb w' tb 5 rsS → Calls Tryz.prog 65 #[.slice a n c, .int .i64 1, .slice (some ⟨tb, 0, none⟩) 5 5] w' fun e w'' => e = .returned (fv (servF xs n)) ∧ Kept No w' w'') := fun w' hw tb hT => each_servers F a n c xs tb w' (h.keep hw) hT
  clear h
  by_cases h32 : n ≤ 32
  · have HF : Hid (findF xs n = servF xs n) := by show findF xs n = servF xs n; unfold findF; rw [if_pos h32]
    rw [HF.out]
    have q1 := fv_neq none
    rw [show fv none = Value.nilIface from rfl] at q1
    simp only [Option.isSome] at q1
    generalize servF xs n = z at *
    go_enter Tryz.func50, Tryz.ntmps50
    go_wp2_with (first
      | (go_at_call 64; refine (table1 _).mono ?_; rintro e w1 ⟨tb, rfl, hT, hk1⟩; have HK1 : Hid (Kept No w w1) := hk1; have hc1 := H1.out w1 hk1 tb hT; rw [if_pos h32] at hc1; clear hT hk1)
      | (go_at_call 51; refine hc1.mono ?_; rintro e w2 ⟨rfl, hk2⟩; have HK2 : Hid (Kept No w w2) := HK1.out.trans hk2 (fun _ h => h.elim); clear hk2 hc1 HK1; rw [show fv none = Value.nilIface from rfl])
      | (go_at_call 66; refine (table5 _).mono ?_; rintro e w3 ⟨tb3, rfl, hT, hk1⟩; have HK3 : Hid (Kept No w w3) := HK2.out.trans hk1 (fun _ h => h.elim); have hc3 := H2.out w3 HK3.out tb3 hT; clear hT hk1)
      | (go_at_call 65; refine hc3.mono ?_; rintro e w4 ⟨rfl, hk2⟩; have HK4 : Hid (Kept No w w4) := HK3.out.trans hk2 (fun _ h => h.elim); clear hk2 hc3))
    go_ret
    exact ⟨rfl, HK4.out⟩
  · have HF : Hid (findF xs n = some (100, 0)) := by show findF xs n = some (100, 0); unfold findF; rw [if_neg h32]
    rw [HF.out]
    rw [show fv (some (100, 0)) = Value.iface 87 (.agg #[.int .i64 100, .int .i64 0]) from rfl]
    go_enter Tryz.func50, Tryz.ntmps50
    go_wp2_with (first
      | (go_at_call 64; refine (table1 _).mono ?_; rintro e w1 ⟨tb, rfl, hT, hk1⟩; have HK1 : Hid (Kept No w w1) := hk1; have hc1 := H1.out w1 hk1 tb hT; rw [if_neg h32, show fv (some (100, 0)) = Value.iface 87 (.agg #[.int .i64 100, .int .i64 0]) from rfl] at hc1; clear hT hk1)
      | (go_at_call 51; refine hc1.mono ?_; rintro e w2 ⟨rfl, hk2⟩; have HK2 : Hid (Kept No w w2) := HK1.out.trans hk2 (fun _ h => h.elim); clear hk2 hc1 HK1))
    go_ret
    exact ⟨rfl, HK2.out⟩

end Go.Proofs.YtibmgpinfdcaoaaGreatDoor

namespace Go.Proofs.YtibmgpinfdcaoaaGreatDoor.Plain
open Go Go.RowKit

/-- an int64's bounds -/
def I64 (x : Int) : Prop := -9223372036854775808 ≤ x ∧ x ≤ 9223372036854775807

theorem wrap_bv (v : BitVec 64) : IntKind.i64.wrap (v.toNat : Int) = v.toInt := by
  have := v.isLt
  rw [IntWalk.i64_left, BitVec.toInt_eq_toNat_cond]
  unfold wrap64
  simp only [Nat.reducePow] at *
  split <;> omega

theorem bv_msb (x : Int) (h : I64 x) : (BitVec.ofInt 64 x).msb = decide (x < 0) := by
  rw [BitVec.msb_eq_toInt, BitVec.toInt_ofInt]
  have : x.bmod (2 ^ 64) = x := by
    unfold I64 at h; unfold Int.bmod; simp only [Nat.reducePow]; split <;> omega
  rw [this]

theorem bits_of (v : BitVec 64) : IntKind.i64.wrap (v.toNat : Int) < 0 ↔ v.msb = true := by
  rw [wrap_bv, BitVec.msb_eq_toInt]; simp

theorem and_neg (x y : Int) (hx : I64 x) (hy : I64 y) : bits .and .i64 x y < 0 ↔ (x < 0 ∧ y < 0) := by
  show IntKind.i64.wrap ((BitVec.ofInt 64 x &&& BitVec.ofInt 64 y).toNat : Int) < 0 ↔ _
  rw [bits_of, BitVec.msb_and, bv_msb x hx, bv_msb y hy]; simp

theorem xor_neg (x y : Int) (hx : I64 x) (hy : I64 y) : bits .xor .i64 x y < 0 ↔ ¬ (x < 0 ↔ y < 0) := by
  show IntKind.i64.wrap ((BitVec.ofInt 64 x ^^^ BitVec.ofInt 64 y).toNat : Int) < 0 ↔ _
  rw [bits_of, BitVec.msb_xor, bv_msb x hx, bv_msb y hy]
  by_cases h1 : x < 0 <;> by_cases h2 : y < 0 <;> simp [h1, h2]

theorem bits_I64 (op : BinOp) (x y : Int) : I64 (bits op .i64 x y) := by
  unfold bits; simp only [IntWalk.i64_left]; unfold wrap64 I64; omega

theorem wrap64_I64 (n : Int) : I64 (wrap64 n) := by unfold wrap64 I64; omega

theorem sums (a b s : Int) (ha : I64 a) (hb : I64 b) (hs : I64 s) : bits .and .i64 (bits .xor .i64 a s) (bits .xor .i64 b s) < 0 ↔ (¬ (a < 0 ↔ s < 0) ∧ ¬ (b < 0 ↔ s < 0)) := by
  rw [and_neg _ _ (bits_I64 _ _ _) (bits_I64 _ _ _), xor_neg a s ha hs, xor_neg b s hb hs]

theorem add_fits (a b : Int) (ha : I64 a) (hb : I64 b) (h : I64 (a + b)) : ¬ bits .and .i64 (bits .xor .i64 a (a + b)) (bits .xor .i64 b (a + b)) < 0 := by
  rw [sums a b _ ha hb h]; unfold I64 at *; omega

theorem add_wraps (a b : Int) (ha : I64 a) (hb : I64 b) (h : ¬ I64 (a + b)) : bits .and .i64 (bits .xor .i64 a (wrap64 (a + b))) (bits .xor .i64 b (wrap64 (a + b))) < 0 := by
  rw [sums a b _ ha hb (wrap64_I64 _)]; unfold I64 wrap64 at *; omega

theorem sub_fits (a b : Int) (ha : I64 a) (hb : I64 b) (h : I64 (a - b)) : ¬ bits .and .i64 (bits .xor .i64 a b) (bits .xor .i64 a (a - b)) < 0 := by
  rw [and_neg _ _ (bits_I64 _ _ _) (bits_I64 _ _ _), xor_neg a b ha hb, xor_neg a _ ha h]; unfold I64 at *; omega

theorem sub_wraps (a b : Int) (ha : I64 a) (hb : I64 b) (h : ¬ I64 (a - b)) : bits .and .i64 (bits .xor .i64 a b) (bits .xor .i64 a (wrap64 (a - b))) < 0 := by
  rw [and_neg _ _ (bits_I64 _ _ _) (bits_I64 _ _ _), xor_neg a b ha hb, xor_neg a _ ha (wrap64_I64 _)]; unfold I64 wrap64 at *; omega

/-- num.Later -/
def laterF (t n : Int) : Int := if t < 0 ∨ 1099511627776 ≤ t ∨ n < 0 ∨ 1099511627776 - t ≤ n then -1 else t + n
/-- num.Add: the number -/
def addV (a b : Int) : Int := if bits .and .i64 (bits .xor .i64 a (wrap64 (a + b))) (bits .xor .i64 b (wrap64 (a + b))) < 0 then 0 else wrap64 (a + b)
/-- num.Add: whether there is one -/
def addB (a b : Int) : Bool := if bits .and .i64 (bits .xor .i64 a (wrap64 (a + b))) (bits .xor .i64 b (wrap64 (a + b))) < 0 then false else true
def subV (a b : Int) : Int := if bits .and .i64 (bits .xor .i64 a b) (bits .xor .i64 a (wrap64 (a - b))) < 0 then 0 else wrap64 (a - b)
def subB (a b : Int) : Bool := if bits .and .i64 (bits .xor .i64 a b) (bits .xor .i64 a (wrap64 (a - b))) < 0 then false else true

theorem laterF_no {t n : Int} (h : t < 0 ∨ 1099511627776 ≤ t ∨ n < 0 ∨ 1099511627776 ≤ t + n) : laterF t n = -1 := if_pos (by omega)
theorem laterF_yes {t n : Int} (h1 : 0 ≤ t) (h2 : 0 ≤ n) (h3 : t + n < 1099511627776) : laterF t n = t + n := if_neg (by omega)

theorem wrap_in {n : Int} (h : I64 n) : wrap64 n = n := IntWalk.wrap64_in n h
theorem addV_yes {a b : Int} (ha : I64 a) (hb : I64 b) (h : I64 (a + b)) : addV a b = a + b := by
  unfold addV; rw [wrap_in h]; exact if_neg (add_fits a b ha hb h)
theorem addB_yes {a b : Int} (ha : I64 a) (hb : I64 b) (h : I64 (a + b)) : addB a b = true := by
  unfold addB; rw [wrap_in h]; exact if_neg (add_fits a b ha hb h)
theorem addV_no {a b : Int} (ha : I64 a) (hb : I64 b) (h : ¬ I64 (a + b)) : addV a b = 0 := if_pos (add_wraps a b ha hb h)
theorem addB_no {a b : Int} (ha : I64 a) (hb : I64 b) (h : ¬ I64 (a + b)) : addB a b = false := if_pos (add_wraps a b ha hb h)
theorem subV_yes {a b : Int} (ha : I64 a) (hb : I64 b) (h : I64 (a - b)) : subV a b = a - b := by
  unfold subV; rw [wrap_in h]; exact if_neg (sub_fits a b ha hb h)
theorem subB_yes {a b : Int} (ha : I64 a) (hb : I64 b) (h : I64 (a - b)) : subB a b = true := by
  unfold subB; rw [wrap_in h]; exact if_neg (sub_fits a b ha hb h)
theorem subV_no {a b : Int} (ha : I64 a) (hb : I64 b) (h : ¬ I64 (a - b)) : subV a b = 0 := if_pos (sub_wraps a b ha hb h)
theorem subB_no {a b : Int} (ha : I64 a) (hb : I64 b) (h : ¬ I64 (a - b)) : subB a b = false := if_pos (sub_wraps a b ha hb h)

theorem wf_I64 {x : Int} (h : (Lit.int .i64 x).wf = true) : I64 x := by
  simp [Lit.wf, IntKind.min, IntKind.max, IntKind.signed, IntKind.bits] at h
  unfold I64; omega

end Go.Proofs.YtibmgpinfdcaoaaGreatDoor.Plain
