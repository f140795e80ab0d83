/-
  One text: RLeg.
-/
import Derived.Test.YtnmhcnppdhdhfaaGreatDoorG14
import Derived.Below
import Derived.Handy
import Derived.WalkKit
namespace Go.Proofs.YtnmhcnppdhdhfaaGreatDoor
namespace Lg
open Go.RowKit
set_option linter.unusedVariables false
set_option linter.unusedSimpArgs false
set_option maxRecDepth 100000

/-- names and shapes by number; 0 is none -/
def nms : List (List UInt8) := [[], [110, 111, 112], [108, 100, 105], [108, 100, 104], [109, 111, 118], [108, 100], [115, 116], [97, 100, 100], [115, 117, 98], [109, 117, 108], [100, 105, 118], [109, 111, 100], [97, 110, 100], [111, 114], [120, 111, 114], [115, 104, 108], [115, 104, 114], [115, 97, 114], [97, 100, 100, 105], [115, 108, 116], [115, 108, 116, 117], [115, 101, 113], [106, 109, 112], [106, 122], [106, 110, 122], [106, 109, 114], [99, 97, 108, 108], [115, 121, 115]]
def shs : List (List UInt8) := [[], [], [97, 110], [97, 110], [97, 98], [97, 98, 110], [97, 98, 110], [97, 98, 99], [97, 98, 99], [97, 98, 99], [97, 98, 99], [97, 98, 99], [97, 98, 99], [97, 98, 99], [97, 98, 99], [97, 98, 99], [97, 98, 99], [97, 98, 99], [97, 98, 110], [97, 98, 99], [97, 98, 99], [97, 98, 99], [112], [97, 112], [97, 112], [97], [112], [110]]
def nmB (k : Nat) : ByteArray := ⟨(nms.getD k []).toArray⟩
def shB (k : Nat) : ByteArray := ⟨(shs.getD k []).toArray⟩
/-- the variable holds the table -/
def Ops (w : World) : Prop := ∀ i, i < 27 → w.cell? ⟨1, i * 2, none⟩ = some (.string (nmB (i + 1))) ∧ w.cell? ⟨1, i * 2 + 1, none⟩ = some (.string (shB (i + 1)))

theorem Ops.below {w w' : World} {B : Nat} (h : Ops w) (b : Below B w w') (hB : 1 < B) : Ops w' := fun i hi => by
  obtain ⟨h1, h2⟩ := h i hi
  exact ⟨(b.cell (p := ⟨1, i * 2, none⟩) hB).trans h1, (b.cell (p := ⟨1, i * 2 + 1, none⟩) hB).trans h2⟩
theorem Ops.pos {w : World} (h : Ops w) : 1 < w.heap.size := cell_lt (h 0 (by decide)).1

def kn (o : Int) : Bool := decide (1 ≤ o ∧ o ≤ 27)
def shV (o : Int) : ByteArray := if kn o then shB o.toNat else ⟨#[]⟩
theorem kn_yes {k : Nat} (h : k < 27) : kn ((k : Int) + 1) = true := by unfold kn; simp; omega
theorem sh_yes {k : Nat} (h : k < 27) : shV ((k : Int) + 1) = shB (k + 1) := by unfold shV; rw [kn_yes h, show ((k : Int) + 1).toNat = k + 1 by omega]; rfl
theorem kn_no {o : Int} (h : ¬ (1 ≤ o ∧ o ≤ 27)) : kn o = false := by unfold kn; simpa using h
theorem sh_no {o : Int} (h : ¬ (1 ≤ o ∧ o ≤ 27)) : shV o = ⟨#[]⟩ := by unfold shV; rw [kn_no h]; rfl

set_option maxHeartbeats 4000000 in
theorem known_any (o : Int) (ho : 0 ≤ o ∧ o < 256) (w : World) :
    Calls Tryz.prog 194 #[.int .u8 o] w fun ex w' => ex = .returned (.bool (kn o)) ∧ w' = w := by
  obtain ⟨h0, h1⟩ := ho
  go_enter Tryz.func194, Tryz.ntmps194
  go_wp2
  all_goals
    go_ret
    refine ⟨?_, rfl⟩
    congr 2
    unfold kn
    symm
    simp
    omega


set_option maxHeartbeats 4000000 in
theorem shape_any (o : Int) (ho : 0 ≤ o ∧ o < 256) (w : World) (hO : Ops w) :
    Calls Tryz.prog 146 #[.int .u8 o] w fun ex w' => ex = .returned (.tuple #[.string (shV o), .bool (kn o)]) ∧ w' = w := by
  have c12 := fun w0 => known_any o ho w0
  by_cases hk : 1 ≤ o ∧ o ≤ 27
  · obtain ⟨k, rfl⟩ : ∃ k : Nat, o = (k : Int) + 1 := ⟨(o - 1).toNat, by omega⟩
    have hk2 : k < 27 := by omega
    obtain ⟨hc0, hc1⟩ := hO k hk2
    rw [sh_yes hk2]
    rw [kn_yes hk2] at c12 ⊢
    clear hO ho hk
    go_enter Tryz.func146, Tryz.ntmps146
    go_wp2_with (go_at_call 194; refine (c12 _).mono ?_; rintro ex w2 ⟨rfl, hw⟩; obtain rfl := hw.symm)
    go_ret2
    exact ⟨rfl, rfl⟩
  · rw [sh_no hk]
    rw [kn_no hk] at c12 ⊢
    clear hO ho hk
    go_enter Tryz.func146, Tryz.ntmps146
    go_wp2_with (go_at_call 194; refine (c12 _).mono ?_; rintro ex w2 ⟨rfl, hw⟩; obtain rfl := hw.symm)
    go_ret2
    exact ⟨rfl, rfl⟩

def insV (o a b c n : Int) : Value := .agg #[.int .u8 o, .int .u8 a, .int .u8 b, .int .u8 c, .int .i32 n]
theorem run_eqIns (w : World) (o a b c n o' a' b' c' n' : Int) :
    (binOp .eql 84 (insV o a b c n) (insV o' a' b' c' n')).run Tryz.prog w = .ok (.bool ((o == o') && ((a == a') && ((b == b') && ((c == c') && (n == n')))))) w := by
  unfold insV
  simp [go_sem]
  by_cases h1 : o = o' <;> by_cases h2 : a = a' <;> by_cases h3 : b = b' <;> by_cases h4 : c = c' <;> by_cases h5 : n = n' <;> simp [h1, h2, h3, h4, h5]

/-- legal, as far as the shape goes -/
def lgS (s : List UInt8) (a b c n : Int) : Bool :=
  decide ((if (97 : UInt8) ∈ s then a < 16 else a = 0) ∧ (if (98 : UInt8) ∈ s then b < 16 else b = 0) ∧ (if (99 : UInt8) ∈ s then c < 16 else c = 0) ∧ ((110 : UInt8) ∈ s ∨ (112 : UInt8) ∈ s ∨ n = 0))
def lg (o a b c n : Int) : Bool := kn o && lgS (shs.getD o.toNat []) a b c n

/-- what a shape may be -/
def Sh9 (s : List UInt8) : Prop := s = [] ∨ s = [97, 110] ∨ s = [97, 98] ∨ s = [97, 98, 110] ∨ s = [97, 98, 99] ∨ s = [112] ∨ s = [97, 112] ∨ s = [97] ∨ s = [110]
theorem sh9 : ∀ k, k < 27 → Sh9 (shs.getD (k + 1) []) := by unfold Sh9; decide
theorem sh9_string {s : List UInt8} : (⟨s.toArray⟩ : ByteArray).data.toList = s := by simp

set_option maxHeartbeats 4000000 in
set_option maxRecDepth 100000 in
theorem legal_none (o a b c n : Int) (ha : 0 ≤ a ∧ a < 256) (hb : 0 ≤ b ∧ b < 256) (hc : 0 ≤ c ∧ c < 256) (w : World)
    (c10 : ∀ w0, Below w.heap.size w w0 → Calls Tryz.prog 146 #[.int .u8 o] w0 fun ex w' => ex = .returned (.tuple #[.string ⟨#[]⟩, .bool true]) ∧ w' = w0) :
    Calls Tryz.prog 80 #[insV o a b c n] w fun ex w' => ex = .returned (.bool (lgS [] a b c n)) ∧ Below w.heap.size w w' := by
  have e : lgS [] a b c n = decide (a = 0 ∧ b = 0 ∧ c = 0 ∧ n = 0) := by unfold lgS; simp
  rw [e]
  clear e
  unfold insV
  obtain ⟨a1, a2⟩ := ha
  obtain ⟨b1, b2⟩ := hb
  obtain ⟨d1, d2⟩ := hc
  go_enter Tryz.func80, Tryz.ntmps80
  go_wp2_with (go_at_call 146; refine (c10 _ (by go_grown)).mono ?_; rintro ex w2 ⟨rfl, rfl⟩)
  go_rounds 1
  all_goals
    go_ret
    refine ⟨?_, by go_grown⟩
    congr 2
    first | (simp; done) | (simp; omega) | (symm; simp; omega) | (symm; simp; done)

set_option maxHeartbeats 4000000 in
set_option maxRecDepth 100000 in
theorem legal_an (o a b c n : Int) (ha : 0 ≤ a ∧ a < 256) (hb : 0 ≤ b ∧ b < 256) (hc : 0 ≤ c ∧ c < 256) (w : World)
    (c10 : ∀ w0, Below w.heap.size w w0 → Calls Tryz.prog 146 #[.int .u8 o] w0 fun ex w' => ex = .returned (.tuple #[.string ⟨#[97, 110]⟩, .bool true]) ∧ w' = w0) :
    Calls Tryz.prog 80 #[insV o a b c n] w fun ex w' => ex = .returned (.bool (lgS [97, 110] a b c n)) ∧ Below w.heap.size w w' := by
  have e : lgS [97, 110] a b c n = decide (a < 16 ∧ b = 0 ∧ c = 0) := by unfold lgS; simp
  rw [e]
  clear e
  unfold insV
  obtain ⟨a1, a2⟩ := ha
  obtain ⟨b1, b2⟩ := hb
  obtain ⟨d1, d2⟩ := hc
  go_enter Tryz.func80, Tryz.ntmps80
  go_wp2_with (go_at_call 146; refine (c10 _ (by go_grown)).mono ?_; rintro ex w2 ⟨rfl, rfl⟩)
  go_rounds 3
  all_goals
    go_ret
    refine ⟨?_, by go_grown⟩
    congr 2
    first | (simp; done) | (simp; omega) | (symm; simp; omega) | (symm; simp; done)

set_option maxHeartbeats 4000000 in
set_option maxRecDepth 100000 in
theorem legal_ab (o a b c n : Int) (ha : 0 ≤ a ∧ a < 256) (hb : 0 ≤ b ∧ b < 256) (hc : 0 ≤ c ∧ c < 256) (w : World)
    (c10 : ∀ w0, Below w.heap.size w w0 → Calls Tryz.prog 146 #[.int .u8 o] w0 fun ex w' => ex = .returned (.tuple #[.string ⟨#[97, 98]⟩, .bool true]) ∧ w' = w0) :
    Calls Tryz.prog 80 #[insV o a b c n] w fun ex w' => ex = .returned (.bool (lgS [97, 98] a b c n)) ∧ Below w.heap.size w w' := by
  have e : lgS [97, 98] a b c n = decide (a < 16 ∧ b < 16 ∧ c = 0 ∧ n = 0) := by unfold lgS; simp
  rw [e]
  clear e
  unfold insV
  obtain ⟨a1, a2⟩ := ha
  obtain ⟨b1, b2⟩ := hb
  obtain ⟨d1, d2⟩ := hc
  go_enter Tryz.func80, Tryz.ntmps80
  go_wp2_with (go_at_call 146; refine (c10 _ (by go_grown)).mono ?_; rintro ex w2 ⟨rfl, rfl⟩)
  go_rounds 3
  all_goals
    go_ret
    refine ⟨?_, by go_grown⟩
    congr 2
    first | (simp; done) | (simp; omega) | (symm; simp; omega) | (symm; simp; done)

set_option maxHeartbeats 4000000 in
set_option maxRecDepth 100000 in
theorem legal_abn (o a b c n : Int) (ha : 0 ≤ a ∧ a < 256) (hb : 0 ≤ b ∧ b < 256) (hc : 0 ≤ c ∧ c < 256) (w : World)
    (c10 : ∀ w0, Below w.heap.size w w0 → Calls Tryz.prog 146 #[.int .u8 o] w0 fun ex w' => ex = .returned (.tuple #[.string ⟨#[97, 98, 110]⟩, .bool true]) ∧ w' = w0) :
    Calls Tryz.prog 80 #[insV o a b c n] w fun ex w' => ex = .returned (.bool (lgS [97, 98, 110] a b c n)) ∧ Below w.heap.size w w' := by
  have e : lgS [97, 98, 110] a b c n = decide (a < 16 ∧ b < 16 ∧ c = 0) := by unfold lgS; simp
  rw [e]
  clear e
  unfold insV
  obtain ⟨a1, a2⟩ := ha
  obtain ⟨b1, b2⟩ := hb
  obtain ⟨d1, d2⟩ := hc
  go_enter Tryz.func80, Tryz.ntmps80
  go_wp2_with (go_at_call 146; refine (c10 _ (by go_grown)).mono ?_; rintro ex w2 ⟨rfl, rfl⟩)
  go_rounds 4
  all_goals
    go_ret
    refine ⟨?_, by go_grown⟩
    congr 2
    first | (simp; done) | (simp; omega) | (symm; simp; omega) | (symm; simp; done)

set_option maxHeartbeats 4000000 in
set_option maxRecDepth 100000 in
theorem legal_abc (o a b c n : Int) (ha : 0 ≤ a ∧ a < 256) (hb : 0 ≤ b ∧ b < 256) (hc : 0 ≤ c ∧ c < 256) (w : World)
    (c10 : ∀ w0, Below w.heap.size w w0 → Calls Tryz.prog 146 #[.int .u8 o] w0 fun ex w' => ex = .returned (.tuple #[.string ⟨#[97, 98, 99]⟩, .bool true]) ∧ w' = w0) :
    Calls Tryz.prog 80 #[insV o a b c n] w fun ex w' => ex = .returned (.bool (lgS [97, 98, 99] a b c n)) ∧ Below w.heap.size w w' := by
  have e : lgS [97, 98, 99] a b c n = decide (a < 16 ∧ b < 16 ∧ c < 16 ∧ n = 0) := by unfold lgS; simp
  rw [e]
  clear e
  unfold insV
  obtain ⟨a1, a2⟩ := ha
  obtain ⟨b1, b2⟩ := hb
  obtain ⟨d1, d2⟩ := hc
  go_enter Tryz.func80, Tryz.ntmps80
  go_wp2_with (go_at_call 146; refine (c10 _ (by go_grown)).mono ?_; rintro ex w2 ⟨rfl, rfl⟩)
  go_rounds 4
  all_goals
    go_ret
    refine ⟨?_, by go_grown⟩
    congr 2
    first | (simp; done) | (simp; omega) | (symm; simp; omega) | (symm; simp; done)

set_option maxHeartbeats 4000000 in
set_option maxRecDepth 100000 in
theorem legal_p (o a b c n : Int) (ha : 0 ≤ a ∧ a < 256) (hb : 0 ≤ b ∧ b < 256) (hc : 0 ≤ c ∧ c < 256) (w : World)
    (c10 : ∀ w0, Below w.heap.size w w0 → Calls Tryz.prog 146 #[.int .u8 o] w0 fun ex w' => ex = .returned (.tuple #[.string ⟨#[112]⟩, .bool true]) ∧ w' = w0) :
    Calls Tryz.prog 80 #[insV o a b c n] w fun ex w' => ex = .returned (.bool (lgS [112] a b c n)) ∧ Below w.heap.size w w' := by
  have e : lgS [112] a b c n = decide (a = 0 ∧ b = 0 ∧ c = 0) := by unfold lgS; simp
  rw [e]
  clear e
  unfold insV
  obtain ⟨a1, a2⟩ := ha
  obtain ⟨b1, b2⟩ := hb
  obtain ⟨d1, d2⟩ := hc
  go_enter Tryz.func80, Tryz.ntmps80
  go_wp2_with (go_at_call 146; refine (c10 _ (by go_grown)).mono ?_; rintro ex w2 ⟨rfl, rfl⟩)
  go_rounds 2
  all_goals
    go_ret
    refine ⟨?_, by go_grown⟩
    congr 2
    first | (simp; done) | (simp; omega) | (symm; simp; omega) | (symm; simp; done)

set_option maxHeartbeats 4000000 in
set_option maxRecDepth 100000 in
theorem legal_ap (o a b c n : Int) (ha : 0 ≤ a ∧ a < 256) (hb : 0 ≤ b ∧ b < 256) (hc : 0 ≤ c ∧ c < 256) (w : World)
    (c10 : ∀ w0, Below w.heap.size w w0 → Calls Tryz.prog 146 #[.int .u8 o] w0 fun ex w' => ex = .returned (.tuple #[.string ⟨#[97, 112]⟩, .bool true]) ∧ w' = w0) :
    Calls Tryz.prog 80 #[insV o a b c n] w fun ex w' => ex = .returned (.bool (lgS [97, 112] a b c n)) ∧ Below w.heap.size w w' := by
  have e : lgS [97, 112] a b c n = decide (a < 16 ∧ b = 0 ∧ c = 0) := by unfold lgS; simp
  rw [e]
  clear e
  unfold insV
  obtain ⟨a1, a2⟩ := ha
  obtain ⟨b1, b2⟩ := hb
  obtain ⟨d1, d2⟩ := hc
  go_enter Tryz.func80, Tryz.ntmps80
  go_wp2_with (go_at_call 146; refine (c10 _ (by go_grown)).mono ?_; rintro ex w2 ⟨rfl, rfl⟩)
  go_rounds 3
  all_goals
    go_ret
    refine ⟨?_, by go_grown⟩
    congr 2
    first | (simp; done) | (simp; omega) | (symm; simp; omega) | (symm; simp; done)

set_option maxHeartbeats 4000000 in
set_option maxRecDepth 100000 in
theorem legal_a (o a b c n : Int) (ha : 0 ≤ a ∧ a < 256) (hb : 0 ≤ b ∧ b < 256) (hc : 0 ≤ c ∧ c < 256) (w : World)
    (c10 : ∀ w0, Below w.heap.size w w0 → Calls Tryz.prog 146 #[.int .u8 o] w0 fun ex w' => ex = .returned (.tuple #[.string ⟨#[97]⟩, .bool true]) ∧ w' = w0) :
    Calls Tryz.prog 80 #[insV o a b c n] w fun ex w' => ex = .returned (.bool (lgS [97] a b c n)) ∧ Below w.heap.size w w' := by
  have e : lgS [97] a b c n = decide (a < 16 ∧ b = 0 ∧ c = 0 ∧ n = 0) := by unfold lgS; simp
  rw [e]
  clear e
  unfold insV
  obtain ⟨a1, a2⟩ := ha
  obtain ⟨b1, b2⟩ := hb
  obtain ⟨d1, d2⟩ := hc
  go_enter Tryz.func80, Tryz.ntmps80
  go_wp2_with (go_at_call 146; refine (c10 _ (by go_grown)).mono ?_; rintro ex w2 ⟨rfl, rfl⟩)
  go_rounds 2
  all_goals
    go_ret
    refine ⟨?_, by go_grown⟩
    congr 2
    first | (simp; done) | (simp; omega) | (symm; simp; omega) | (symm; simp; done)

set_option maxHeartbeats 4000000 in
set_option maxRecDepth 100000 in
theorem legal_n (o a b c n : Int) (ha : 0 ≤ a ∧ a < 256) (hb : 0 ≤ b ∧ b < 256) (hc : 0 ≤ c ∧ c < 256) (w : World)
    (c10 : ∀ w0, Below w.heap.size w w0 → Calls Tryz.prog 146 #[.int .u8 o] w0 fun ex w' => ex = .returned (.tuple #[.string ⟨#[110]⟩, .bool true]) ∧ w' = w0) :
    Calls Tryz.prog 80 #[insV o a b c n] w fun ex w' => ex = .returned (.bool (lgS [110] a b c n)) ∧ Below w.heap.size w w' := by
  have e : lgS [110] a b c n = decide (a = 0 ∧ b = 0 ∧ c = 0) := by unfold lgS; simp
  rw [e]
  clear e
  unfold insV
  obtain ⟨a1, a2⟩ := ha
  obtain ⟨b1, b2⟩ := hb
  obtain ⟨d1, d2⟩ := hc
  go_enter Tryz.func80, Tryz.ntmps80
  go_wp2_with (go_at_call 146; refine (c10 _ (by go_grown)).mono ?_; rintro ex w2 ⟨rfl, rfl⟩)
  go_rounds 2
  all_goals
    go_ret
    refine ⟨?_, by go_grown⟩
    congr 2
    first | (simp; done) | (simp; omega) | (symm; simp; omega) | (symm; simp; done)

set_option maxHeartbeats 4000000 in
theorem legal_any (o a b c n : Int) (ho : 0 ≤ o ∧ o < 256) (ha : 0 ≤ a ∧ a < 256) (hb : 0 ≤ b ∧ b < 256) (hc : 0 ≤ c ∧ c < 256) (w : World) (hO : Ops w) :
    Calls Tryz.prog 80 #[insV o a b c n] w fun ex w' => ex = .returned (.bool (lg o a b c n)) ∧ Below w.heap.size w w' := by
  have c10 := fun w0 (hb : Below w.heap.size w w0) => shape_any o ho w0 (hO.below hb hO.pos)
  by_cases hk : 1 ≤ o ∧ o ≤ 27
  · obtain ⟨k, rfl⟩ : ∃ k : Nat, o = (k : Int) + 1 := ⟨(o - 1).toNat, by omega⟩
    have hk2 : k < 27 := by omega
    have e : lg ((k : Int) + 1) a b c n = lgS (shs.getD (k + 1) []) a b c n := by unfold lg; rw [kn_yes hk2, show ((k : Int) + 1).toNat = k + 1 by omega]; rfl
    rw [e]
    rw [sh_yes hk2, kn_yes hk2] at c10
    unfold shB at c10
    have h9 := sh9 k hk2
    unfold Sh9 at h9
    rcases h9 with h | h | h | h | h | h | h | h | h <;> rw [h] at c10 ⊢
    · exact legal_none _ a b c n ha hb hc w c10
    · exact legal_an _ a b c n ha hb hc w c10
    · exact legal_ab _ a b c n ha hb hc w c10
    · exact legal_abn _ a b c n ha hb hc w c10
    · exact legal_abc _ a b c n ha hb hc w c10
    · exact legal_p _ a b c n ha hb hc w c10
    · exact legal_ap _ a b c n ha hb hc w c10
    · exact legal_a _ a b c n ha hb hc w c10
    · exact legal_n _ a b c n ha hb hc w c10
  · have e : lg o a b c n = false := by unfold lg; rw [kn_no hk]; rfl
    rw [e]
    rw [sh_no hk, kn_no hk] at c10
    unfold insV
    clear hO ho ha hb hc e hk
    go_enter Tryz.func80, Tryz.ntmps80
    go_wp2_with (go_at_call 146; refine (c10 _ (by go_grown)).mono ?_; rintro ex w2 ⟨rfl, rfl⟩)
    go_ret
    exact ⟨rfl, by go_grown⟩

end Lg
end Go.Proofs.YtnmhcnppdhdhfaaGreatDoor
