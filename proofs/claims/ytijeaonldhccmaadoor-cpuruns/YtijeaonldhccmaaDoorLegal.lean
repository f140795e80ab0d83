/-
  Legal: the program's.
-/
import Derived.Test.YtijeaonldhccmaaDoorSh
import Derived.Handy
import Derived.Below
import Derived.Laws.ResultCell
namespace Go.Proofs.YtijeaonldhccmaaDoor
open Go.RowKit
set_option linter.unusedVariables false

def insV (o a b c n : Int) : Value := .agg #[.int .u8 o, .int .u8 a, .int .u8 b, .int .u8 c, .int .i32 n]

/-- legal, as far as the shape goes -/
def lgS (s : List UInt8) (a b c n : Int) : Bool :=
  decide ((if (97 : UInt8) ∈ s then a < 16 else a = 0) ∧ (if (98 : UInt8) ∈ s then b < 16 else b = 0) ∧ (if (99 : UInt8) ∈ s then c < 16 else c = 0) ∧ ((110 : UInt8) ∈ s ∨ (112 : UInt8) ∈ s ∨ n = 0))
def lg (o a b c n : Int) : Bool := kn o && lgS (shs.getD o.toNat []) a b c n

/-- what a shape may be -/
def Sh9 (s : List UInt8) : Prop := s = [] ∨ s = [97, 110] ∨ s = [97, 98] ∨ s = [97, 98, 110] ∨ s = [97, 98, 99] ∨ s = [112] ∨ s = [97, 112] ∨ s = [97] ∨ s = [110]
theorem sh9 : ∀ k, k < 27 → Sh9 (shs.getD (k + 1) []) := by unfold Sh9; decide
theorem sh9_string {s : List UInt8} : (⟨s.toArray⟩ : ByteArray).data.toList = s := by simp

set_option maxHeartbeats 4000000 in
set_option maxRecDepth 100000 in
theorem legal_none (o a b c n : Int) (ha : 0 ≤ a ∧ a < 256) (hb : 0 ≤ b ∧ b < 256) (hc : 0 ≤ c ∧ c < 256) (w : World)
    (c10 : ∀ w0, Below w.heap.size w w0 → Calls Tryd.prog 27 #[.int .u8 o] w0 fun ex w' => ex = .returned (.tuple #[.string ⟨#[]⟩, .bool true]) ∧ w' = w0) :
    Calls Tryd.prog 14 #[insV o a b c n] w fun ex w' => ex = .returned (.bool (lgS [] a b c n)) ∧ Below w.heap.size w w' := by
  have e : lgS [] a b c n = decide (a = 0 ∧ b = 0 ∧ c = 0 ∧ n = 0) := by unfold lgS; simp
  rw [e]
  clear e
  unfold insV
  obtain ⟨a1, a2⟩ := ha
  obtain ⟨b1, b2⟩ := hb
  obtain ⟨d1, d2⟩ := hc
  go_enter Tryd.func14, Tryd.ntmps14
  go_wp2_with (go_at_call 27; refine (c10 _ (by go_grown)).mono ?_; rintro ex w2 ⟨rfl, rfl⟩)
  go_rounds 1
  all_goals
    go_ret
    refine ⟨?_, by go_grown⟩
    congr 2
    first | (simp; done) | (simp; omega) | (symm; simp; omega) | (symm; simp; done)

set_option maxHeartbeats 4000000 in
set_option maxRecDepth 100000 in
theorem legal_an (o a b c n : Int) (ha : 0 ≤ a ∧ a < 256) (hb : 0 ≤ b ∧ b < 256) (hc : 0 ≤ c ∧ c < 256) (w : World)
    (c10 : ∀ w0, Below w.heap.size w w0 → Calls Tryd.prog 27 #[.int .u8 o] w0 fun ex w' => ex = .returned (.tuple #[.string ⟨#[97, 110]⟩, .bool true]) ∧ w' = w0) :
    Calls Tryd.prog 14 #[insV o a b c n] w fun ex w' => ex = .returned (.bool (lgS [97, 110] a b c n)) ∧ Below w.heap.size w w' := by
  have e : lgS [97, 110] a b c n = decide (a < 16 ∧ b = 0 ∧ c = 0) := by unfold lgS; simp
  rw [e]
  clear e
  unfold insV
  obtain ⟨a1, a2⟩ := ha
  obtain ⟨b1, b2⟩ := hb
  obtain ⟨d1, d2⟩ := hc
  go_enter Tryd.func14, Tryd.ntmps14
  go_wp2_with (go_at_call 27; refine (c10 _ (by go_grown)).mono ?_; rintro ex w2 ⟨rfl, rfl⟩)
  go_rounds 3
  all_goals
    go_ret
    refine ⟨?_, by go_grown⟩
    congr 2
    first | (simp; done) | (simp; omega) | (symm; simp; omega) | (symm; simp; done)

set_option maxHeartbeats 4000000 in
set_option maxRecDepth 100000 in
theorem legal_ab (o a b c n : Int) (ha : 0 ≤ a ∧ a < 256) (hb : 0 ≤ b ∧ b < 256) (hc : 0 ≤ c ∧ c < 256) (w : World)
    (c10 : ∀ w0, Below w.heap.size w w0 → Calls Tryd.prog 27 #[.int .u8 o] w0 fun ex w' => ex = .returned (.tuple #[.string ⟨#[97, 98]⟩, .bool true]) ∧ w' = w0) :
    Calls Tryd.prog 14 #[insV o a b c n] w fun ex w' => ex = .returned (.bool (lgS [97, 98] a b c n)) ∧ Below w.heap.size w w' := by
  have e : lgS [97, 98] a b c n = decide (a < 16 ∧ b < 16 ∧ c = 0 ∧ n = 0) := by unfold lgS; simp
  rw [e]
  clear e
  unfold insV
  obtain ⟨a1, a2⟩ := ha
  obtain ⟨b1, b2⟩ := hb
  obtain ⟨d1, d2⟩ := hc
  go_enter Tryd.func14, Tryd.ntmps14
  go_wp2_with (go_at_call 27; refine (c10 _ (by go_grown)).mono ?_; rintro ex w2 ⟨rfl, rfl⟩)
  go_rounds 3
  all_goals
    go_ret
    refine ⟨?_, by go_grown⟩
    congr 2
    first | (simp; done) | (simp; omega) | (symm; simp; omega) | (symm; simp; done)

set_option maxHeartbeats 4000000 in
set_option maxRecDepth 100000 in
theorem legal_abn (o a b c n : Int) (ha : 0 ≤ a ∧ a < 256) (hb : 0 ≤ b ∧ b < 256) (hc : 0 ≤ c ∧ c < 256) (w : World)
    (c10 : ∀ w0, Below w.heap.size w w0 → Calls Tryd.prog 27 #[.int .u8 o] w0 fun ex w' => ex = .returned (.tuple #[.string ⟨#[97, 98, 110]⟩, .bool true]) ∧ w' = w0) :
    Calls Tryd.prog 14 #[insV o a b c n] w fun ex w' => ex = .returned (.bool (lgS [97, 98, 110] a b c n)) ∧ Below w.heap.size w w' := by
  have e : lgS [97, 98, 110] a b c n = decide (a < 16 ∧ b < 16 ∧ c = 0) := by unfold lgS; simp
  rw [e]
  clear e
  unfold insV
  obtain ⟨a1, a2⟩ := ha
  obtain ⟨b1, b2⟩ := hb
  obtain ⟨d1, d2⟩ := hc
  go_enter Tryd.func14, Tryd.ntmps14
  go_wp2_with (go_at_call 27; refine (c10 _ (by go_grown)).mono ?_; rintro ex w2 ⟨rfl, rfl⟩)
  go_rounds 4
  all_goals
    go_ret
    refine ⟨?_, by go_grown⟩
    congr 2
    first | (simp; done) | (simp; omega) | (symm; simp; omega) | (symm; simp; done)

set_option maxHeartbeats 4000000 in
set_option maxRecDepth 100000 in
theorem legal_abc (o a b c n : Int) (ha : 0 ≤ a ∧ a < 256) (hb : 0 ≤ b ∧ b < 256) (hc : 0 ≤ c ∧ c < 256) (w : World)
    (c10 : ∀ w0, Below w.heap.size w w0 → Calls Tryd.prog 27 #[.int .u8 o] w0 fun ex w' => ex = .returned (.tuple #[.string ⟨#[97, 98, 99]⟩, .bool true]) ∧ w' = w0) :
    Calls Tryd.prog 14 #[insV o a b c n] w fun ex w' => ex = .returned (.bool (lgS [97, 98, 99] a b c n)) ∧ Below w.heap.size w w' := by
  have e : lgS [97, 98, 99] a b c n = decide (a < 16 ∧ b < 16 ∧ c < 16 ∧ n = 0) := by unfold lgS; simp
  rw [e]
  clear e
  unfold insV
  obtain ⟨a1, a2⟩ := ha
  obtain ⟨b1, b2⟩ := hb
  obtain ⟨d1, d2⟩ := hc
  go_enter Tryd.func14, Tryd.ntmps14
  go_wp2_with (go_at_call 27; refine (c10 _ (by go_grown)).mono ?_; rintro ex w2 ⟨rfl, rfl⟩)
  go_rounds 4
  all_goals
    go_ret
    refine ⟨?_, by go_grown⟩
    congr 2
    first | (simp; done) | (simp; omega) | (symm; simp; omega) | (symm; simp; done)

set_option maxHeartbeats 4000000 in
set_option maxRecDepth 100000 in
theorem legal_p (o a b c n : Int) (ha : 0 ≤ a ∧ a < 256) (hb : 0 ≤ b ∧ b < 256) (hc : 0 ≤ c ∧ c < 256) (w : World)
    (c10 : ∀ w0, Below w.heap.size w w0 → Calls Tryd.prog 27 #[.int .u8 o] w0 fun ex w' => ex = .returned (.tuple #[.string ⟨#[112]⟩, .bool true]) ∧ w' = w0) :
    Calls Tryd.prog 14 #[insV o a b c n] w fun ex w' => ex = .returned (.bool (lgS [112] a b c n)) ∧ Below w.heap.size w w' := by
  have e : lgS [112] a b c n = decide (a = 0 ∧ b = 0 ∧ c = 0) := by unfold lgS; simp
  rw [e]
  clear e
  unfold insV
  obtain ⟨a1, a2⟩ := ha
  obtain ⟨b1, b2⟩ := hb
  obtain ⟨d1, d2⟩ := hc
  go_enter Tryd.func14, Tryd.ntmps14
  go_wp2_with (go_at_call 27; refine (c10 _ (by go_grown)).mono ?_; rintro ex w2 ⟨rfl, rfl⟩)
  go_rounds 2
  all_goals
    go_ret
    refine ⟨?_, by go_grown⟩
    congr 2
    first | (simp; done) | (simp; omega) | (symm; simp; omega) | (symm; simp; done)

set_option maxHeartbeats 4000000 in
set_option maxRecDepth 100000 in
theorem legal_ap (o a b c n : Int) (ha : 0 ≤ a ∧ a < 256) (hb : 0 ≤ b ∧ b < 256) (hc : 0 ≤ c ∧ c < 256) (w : World)
    (c10 : ∀ w0, Below w.heap.size w w0 → Calls Tryd.prog 27 #[.int .u8 o] w0 fun ex w' => ex = .returned (.tuple #[.string ⟨#[97, 112]⟩, .bool true]) ∧ w' = w0) :
    Calls Tryd.prog 14 #[insV o a b c n] w fun ex w' => ex = .returned (.bool (lgS [97, 112] a b c n)) ∧ Below w.heap.size w w' := by
  have e : lgS [97, 112] a b c n = decide (a < 16 ∧ b = 0 ∧ c = 0) := by unfold lgS; simp
  rw [e]
  clear e
  unfold insV
  obtain ⟨a1, a2⟩ := ha
  obtain ⟨b1, b2⟩ := hb
  obtain ⟨d1, d2⟩ := hc
  go_enter Tryd.func14, Tryd.ntmps14
  go_wp2_with (go_at_call 27; refine (c10 _ (by go_grown)).mono ?_; rintro ex w2 ⟨rfl, rfl⟩)
  go_rounds 3
  all_goals
    go_ret
    refine ⟨?_, by go_grown⟩
    congr 2
    first | (simp; done) | (simp; omega) | (symm; simp; omega) | (symm; simp; done)

set_option maxHeartbeats 4000000 in
set_option maxRecDepth 100000 in
theorem legal_a (o a b c n : Int) (ha : 0 ≤ a ∧ a < 256) (hb : 0 ≤ b ∧ b < 256) (hc : 0 ≤ c ∧ c < 256) (w : World)
    (c10 : ∀ w0, Below w.heap.size w w0 → Calls Tryd.prog 27 #[.int .u8 o] w0 fun ex w' => ex = .returned (.tuple #[.string ⟨#[97]⟩, .bool true]) ∧ w' = w0) :
    Calls Tryd.prog 14 #[insV o a b c n] w fun ex w' => ex = .returned (.bool (lgS [97] a b c n)) ∧ Below w.heap.size w w' := by
  have e : lgS [97] a b c n = decide (a < 16 ∧ b = 0 ∧ c = 0 ∧ n = 0) := by unfold lgS; simp
  rw [e]
  clear e
  unfold insV
  obtain ⟨a1, a2⟩ := ha
  obtain ⟨b1, b2⟩ := hb
  obtain ⟨d1, d2⟩ := hc
  go_enter Tryd.func14, Tryd.ntmps14
  go_wp2_with (go_at_call 27; refine (c10 _ (by go_grown)).mono ?_; rintro ex w2 ⟨rfl, rfl⟩)
  go_rounds 2
  all_goals
    go_ret
    refine ⟨?_, by go_grown⟩
    congr 2
    first | (simp; done) | (simp; omega) | (symm; simp; omega) | (symm; simp; done)

set_option maxHeartbeats 4000000 in
set_option maxRecDepth 100000 in
theorem legal_n (o a b c n : Int) (ha : 0 ≤ a ∧ a < 256) (hb : 0 ≤ b ∧ b < 256) (hc : 0 ≤ c ∧ c < 256) (w : World)
    (c10 : ∀ w0, Below w.heap.size w w0 → Calls Tryd.prog 27 #[.int .u8 o] w0 fun ex w' => ex = .returned (.tuple #[.string ⟨#[110]⟩, .bool true]) ∧ w' = w0) :
    Calls Tryd.prog 14 #[insV o a b c n] w fun ex w' => ex = .returned (.bool (lgS [110] a b c n)) ∧ Below w.heap.size w w' := by
  have e : lgS [110] a b c n = decide (a = 0 ∧ b = 0 ∧ c = 0) := by unfold lgS; simp
  rw [e]
  clear e
  unfold insV
  obtain ⟨a1, a2⟩ := ha
  obtain ⟨b1, b2⟩ := hb
  obtain ⟨d1, d2⟩ := hc
  go_enter Tryd.func14, Tryd.ntmps14
  go_wp2_with (go_at_call 27; refine (c10 _ (by go_grown)).mono ?_; rintro ex w2 ⟨rfl, rfl⟩)
  go_rounds 2
  all_goals
    go_ret
    refine ⟨?_, by go_grown⟩
    congr 2
    first | (simp; done) | (simp; omega) | (symm; simp; omega) | (symm; simp; done)

set_option maxHeartbeats 4000000 in
theorem legal_any (o a b c n : Int) (ho : 0 ≤ o ∧ o < 256) (ha : 0 ≤ a ∧ a < 256) (hb : 0 ≤ b ∧ b < 256) (hc : 0 ≤ c ∧ c < 256) (w : World) (hO : Ops w) :
    Calls Tryd.prog 14 #[insV o a b c n] w fun ex w' => ex = .returned (.bool (lg o a b c n)) ∧ Below w.heap.size w w' := by
  have c10 := fun w0 (hb : Below w.heap.size w w0) => shape_any o ho w0 (hO.below hb hO.pos)
  by_cases hk : 1 ≤ o ∧ o ≤ 27
  · obtain ⟨k, rfl⟩ : ∃ k : Nat, o = (k : Int) + 1 := ⟨(o - 1).toNat, by omega⟩
    have hk2 : k < 27 := by omega
    have e : lg ((k : Int) + 1) a b c n = lgS (shs.getD (k + 1) []) a b c n := by unfold lg; rw [kn_yes hk2, show ((k : Int) + 1).toNat = k + 1 by omega]; rfl
    rw [e]
    rw [sh_yes hk2, kn_yes hk2] at c10
    unfold shB at c10
    have h9 := sh9 k hk2
    unfold Sh9 at h9
    rcases h9 with h | h | h | h | h | h | h | h | h <;> rw [h] at c10 ⊢
    · exact legal_none _ a b c n ha hb hc w c10
    · exact legal_an _ a b c n ha hb hc w c10
    · exact legal_ab _ a b c n ha hb hc w c10
    · exact legal_abn _ a b c n ha hb hc w c10
    · exact legal_abc _ a b c n ha hb hc w c10
    · exact legal_p _ a b c n ha hb hc w c10
    · exact legal_ap _ a b c n ha hb hc w c10
    · exact legal_a _ a b c n ha hb hc w c10
    · exact legal_n _ a b c n ha hb hc w c10
  · have e : lg o a b c n = false := by unfold lg; rw [kn_no hk]; rfl
    rw [e]
    rw [sh_no hk, kn_no hk] at c10
    unfold insV
    clear hO ho ha hb hc e hk
    go_enter Tryd.func14, Tryd.ntmps14
    go_wp2_with (go_at_call 27; refine (c10 _ (by go_grown)).mono ?_; rintro ex w2 ⟨rfl, rfl⟩)
    go_ret
    exact ⟨rfl, by go_grown⟩

end Go.Proofs.YtijeaonldhccmaaDoor
