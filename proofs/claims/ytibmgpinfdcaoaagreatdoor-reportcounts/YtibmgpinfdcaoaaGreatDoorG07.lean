/-
  One text: NRefs, NLcm.
-/
import Derived.Test.YtibmgpinfdcaoaaGreatDoorG06
import Derived.Test.YtibmgpinfdcaoaaGreatDoorProg
import Derived.WalkKit
import Derived.WalkSpells
import Derived.WalkLawsBesides
import Derived.WalkMore
import Derived.Deep.QuietTactic
import Derived.BigQuiet
namespace Go.Proofs.YtibmgpinfdcaoaaGreatDoor.Plain
open Go Go.RowKit

/-- the number at a distance from 0 -/
def sgnV (below : Bool) (d : Int) : Int := if below then (if 9223372036854775808 < d then 0 else -d) else if 9223372036854775807 < d then 0 else d
def sgnB (below : Bool) (d : Int) : Bool := if below then (if 9223372036854775808 < d then false else true) else if 9223372036854775807 < d then false else true

theorem sgn_up {d : Int} (h : d ≤ 9223372036854775807) : sgnV false d = d ∧ sgnB false d = true := by
  unfold sgnV sgnB
  simp only [Bool.false_eq_true, if_false]
  rw [if_neg (by omega), if_neg (by omega)]; exact ⟨rfl, rfl⟩
theorem sgn_down {d : Int} (h : d ≤ 9223372036854775808) : sgnV true d = -d ∧ sgnB true d = true := by
  unfold sgnV sgnB
  simp only [if_true]
  rw [if_neg (by omega), if_neg (by omega)]; exact ⟨rfl, rfl⟩

theorem add_same (a b : Int) (ha : I64 a) (hb : I64 b) (h : a < 0 ↔ b < 0) :
    sgnV (decide (a < 0)) ((a.natAbs : Int) + (b.natAbs : Int)) = addV a b ∧ sgnB (decide (a < 0)) ((a.natAbs : Int) + (b.natAbs : Int)) = addB a b := by
  by_cases hf : I64 (a + b)
  · rw [addV_yes ha hb hf, addB_yes ha hb hf]
    unfold sgnV sgnB I64 at *
    by_cases hn : a < 0
    · simp only [hn, decide_true, if_true]; rw [if_neg (by omega), if_neg (by omega)]; exact ⟨by omega, rfl⟩
    · have e : decide (a < 0) = false := by simpa using hn
      simp only [e, Bool.false_eq_true, if_false]; rw [if_neg (by omega), if_neg (by omega)]; exact ⟨by omega, rfl⟩
  · rw [addV_no ha hb hf, addB_no ha hb hf]
    unfold sgnV sgnB I64 at *
    by_cases hn : a < 0
    · simp only [hn, decide_true, if_true]; rw [if_pos (by omega), if_pos (by omega)]; exact ⟨rfl, rfl⟩
    · have e : decide (a < 0) = false := by simpa using hn
      simp only [e, Bool.false_eq_true, if_false]; rw [if_pos (by omega), if_pos (by omega)]; exact ⟨rfl, rfl⟩

theorem sub_of_add (a b : Int) (ha : I64 a) (hb : I64 b) (h : b ≠ -9223372036854775808) : addV a (-b) = subV a b ∧ addB a (-b) = subB a b := by
  have hn : I64 (-b) := by unfold I64 at *; omega
  by_cases hf : I64 (a - b)
  · have hf2 : I64 (a + -b) := by rw [← Int.sub_eq_add_neg]; exact hf
    rw [addV_yes ha hn hf2, addB_yes ha hn hf2, subV_yes ha hb hf, subB_yes ha hb hf]; exact ⟨by omega, rfl⟩
  · have hf2 : ¬ I64 (a + -b) := by rw [← Int.sub_eq_add_neg]; exact hf
    rw [addV_no ha hn hf2, addB_no ha hn hf2, subV_no ha hb hf, subB_no ha hb hf]; exact ⟨rfl, rfl⟩

/-- a product by distances -/
theorem mul_away (a b : Int) : (a.natAbs : Int) * (b.natAbs : Int) = if (a < 0) ≠ (b < 0) then -(a * b) else a * b := by
  by_cases h1 : a < 0 <;> by_cases h2 : b < 0
  · rw [if_neg (by simp [h1, h2]), show (a.natAbs : Int) = -a by omega, show (b.natAbs : Int) = -b by omega, Int.neg_mul_neg]
  · rw [if_pos (by simp [h1, h2]), show (a.natAbs : Int) = -a by omega, show (b.natAbs : Int) = b by omega, Int.neg_mul]
  · rw [if_pos (by simp [h1, h2]), show (a.natAbs : Int) = a by omega, show (b.natAbs : Int) = -b by omega, Int.mul_neg]
  · rw [if_neg (by simp [h1, h2]), show (a.natAbs : Int) = a by omega, show (b.natAbs : Int) = b by omega]

theorem fit_div (x y : Int) (hx : 0 < x) : 9223372036854775808 / x < y ↔ 9223372036854775808 < x * y := lcm_fit 9223372036854775808 x y (by omega)

theorem mul_ref (a b : Int) (h : ¬ 9223372036854775808 < (a.natAbs : Int) * (b.natAbs : Int)) (s : Bool)
    (hs : s = ((decide (a < 0) != decide (b < 0)) && ((a.natAbs : Int) * (b.natAbs : Int) != 0))) :
    sgnV s ((a.natAbs : Int) * (b.natAbs : Int)) = mulV a b ∧ sgnB s ((a.natAbs : Int) * (b.natAbs : Int)) = mulB a b := by
  have hm := mul_away a b
  have hp : 0 ≤ (a.natAbs : Int) * (b.natAbs : Int) := Int.mul_nonneg (by omega) (by omega)
  generalize (a.natAbs : Int) * (b.natAbs : Int) = t at *
  have key : ∀ u : Int, sgnV s t = u → sgnB s t = true → a * b = u → I64 u → sgnV s t = mulV a b ∧ sgnB s t = mulB a b := by
    intro u h1 h2 h3 h4
    rw [mulV_yes (by rw [h3]; exact h4), mulB_yes (by rw [h3]; exact h4), h1, h2, h3]; exact ⟨rfl, rfl⟩
  by_cases h1 : a < 0 <;> by_cases h2 : b < 0
  · rw [if_neg (by simp [h1, h2])] at hm
    simp [h1, h2] at hs
    subst hs
    by_cases hb : 9223372036854775807 < t
    · rw [mulV_no (by unfold I64; omega), mulB_no (by unfold I64; omega)]
      exact ⟨if_pos hb, if_pos hb⟩
    · exact key t (if_neg hb) (if_neg hb) hm.symm (by unfold I64; omega)
  · rw [if_pos (by simp [h1, h2])] at hm
    simp [h1, h2] at hs
    by_cases h0 : t = 0
    · subst h0
      simp at hs
      subst hs
      exact key 0 (sgn_up (by omega)).1 (sgn_up (by omega)).2 (by omega) (by unfold I64; omega)
    · have : s = true := by rw [hs]; simpa using h0
      subst this
      exact key (-t) (if_neg h) (if_neg h) (by omega) (by unfold I64; omega)
  · rw [if_pos (by simp [h1, h2])] at hm
    simp [h1, h2] at hs
    by_cases h0 : t = 0
    · subst h0
      simp at hs
      subst hs
      exact key 0 (sgn_up (by omega)).1 (sgn_up (by omega)).2 (by omega) (by unfold I64; omega)
    · have : s = true := by rw [hs]; simpa using h0
      subst this
      exact key (-t) (if_neg h) (if_neg h) (by omega) (by unfold I64; omega)
  · rw [if_neg (by simp [h1, h2])] at hm
    simp [h1, h2] at hs
    subst hs
    by_cases hb : 9223372036854775807 < t
    · rw [mulV_no (by unfold I64; omega), mulB_no (by unfold I64; omega)]
      exact ⟨if_pos hb, if_pos hb⟩
    · exact key t (if_neg hb) (if_neg hb) hm.symm (by unfold I64; omega)

theorem mul_ref_no (a b : Int) (h : 9223372036854775808 < (a.natAbs : Int) * (b.natAbs : Int)) : mulV a b = 0 ∧ mulB a b = false := by
  have hm := mul_away a b
  generalize (a.natAbs : Int) * (b.natAbs : Int) = t at *
  have hn : ¬ I64 (a * b) := by
    unfold I64
    split at hm <;> omega
  exact ⟨mulV_no hn, mulB_no hn⟩

/-- the quotient's distance from 0, and the rest -/
def refQ (a b : Int) : Int := if a < 0 ∧ 0 < (a.natAbs : Int) % (b.natAbs : Int) then (a.natAbs : Int) / (b.natAbs : Int) + 1 else (a.natAbs : Int) / (b.natAbs : Int)
def refR (a b : Int) : Int := if a < 0 ∧ 0 < (a.natAbs : Int) % (b.natAbs : Int) then (b.natAbs : Int) - (a.natAbs : Int) % (b.natAbs : Int) else (a.natAbs : Int) % (b.natAbs : Int)

theorem div_away (a b : Int) (h0 : b ≠ 0) : a % b = refR a b ∧ a / b = if (a < 0) ≠ (b < 0) then -(refQ a b) else refQ a b := by
  have hy : 1 ≤ (b.natAbs : Int) := by omega
  obtain ⟨s1, s2, s3⟩ := split (a.natAbs : Int) (b.natAbs : Int) hy
  have key : a / (b.natAbs : Int) = (if a < 0 then -(refQ a b) else refQ a b) ∧ a % (b.natAbs : Int) = refR a b := by
    apply (Int.ediv_emod_unique (by omega)).2
    by_cases h1 : a < 0
    · by_cases h2 : 0 < (a.natAbs : Int) % (b.natAbs : Int)
      · have r1 : refQ a b = (a.natAbs : Int) / (b.natAbs : Int) + 1 := if_pos ⟨h1, h2⟩
        have r2 : refR a b = (b.natAbs : Int) - (a.natAbs : Int) % (b.natAbs : Int) := if_pos ⟨h1, h2⟩
        rw [r1, r2, if_pos h1, Int.mul_neg, Int.mul_add]; omega
      · have r1 : refQ a b = (a.natAbs : Int) / (b.natAbs : Int) := if_neg (fun h => h2 h.2)
        have r2 : refR a b = (a.natAbs : Int) % (b.natAbs : Int) := if_neg (fun h => h2 h.2)
        rw [r1, r2, if_pos h1, Int.mul_neg]; omega
    · have r1 : refQ a b = (a.natAbs : Int) / (b.natAbs : Int) := if_neg (fun h => h1 h.1)
      have r2 : refR a b = (a.natAbs : Int) % (b.natAbs : Int) := if_neg (fun h => h1 h.1)
      rw [r1, r2, if_neg h1]; omega
  by_cases hb : b < 0
  · have e : b = -(b.natAbs : Int) := by omega
    have e1 : a / b = -(a / (b.natAbs : Int)) := by
      have := Int.ediv_neg a (b.natAbs : Int); rw [← e] at this; exact this
    have e2 : a % b = a % (b.natAbs : Int) := by
      have := Int.emod_neg a (b.natAbs : Int); rw [← e] at this; exact this
    rw [e1, e2, key.1, key.2]
    refine ⟨rfl, ?_⟩
    by_cases h1 : a < 0
    · rw [if_pos h1, if_neg (by simp [h1, hb])]; omega
    · rw [if_neg h1, if_pos (by simp [h1, hb])]
  · have e : b = (b.natAbs : Int) := by omega
    have e1 : a / b = a / (b.natAbs : Int) := by rw [← e]
    have e2 : a % b = a % (b.natAbs : Int) := by rw [← e]
    rw [e1, e2, key.1, key.2]
    refine ⟨rfl, ?_⟩
    by_cases h1 : a < 0
    · rw [if_pos h1, if_pos (by simp [h1, hb])]
    · rw [if_neg h1, if_neg (by simp [h1, hb])]

theorem refQ_bd (a b : Int) (ha : I64 a) (h0 : b ≠ 0) : 0 ≤ refQ a b ∧ refQ a b ≤ 9223372036854775808 ∧ 0 ≤ refR a b ∧ refR a b < (b.natAbs : Int) := by
  obtain ⟨s1, s2, s3⟩ := split (a.natAbs : Int) (b.natAbs : Int) (by omega)
  obtain ⟨d1, d2⟩ := div_le (a.natAbs : Int) (b.natAbs : Int) (by omega) (by omega)
  unfold refQ refR I64 at *
  by_cases h2 : a < 0 ∧ 0 < (a.natAbs : Int) % (b.natAbs : Int)
  · rw [if_pos h2, if_pos h2]
    refine ⟨by omega, ?_, by omega, by omega⟩
    by_cases h3 : (a.natAbs : Int) / (b.natAbs : Int) = 9223372036854775808
    · exfalso
      rw [h3] at s1
      have : (b.natAbs : Int) * 9223372036854775808 ≤ 9223372036854775808 := by omega
      have : (b.natAbs : Int) = 1 := by omega
      omega
    · omega
  · rw [if_neg h2, if_neg h2]; omega

theorem div_ref (a b : Int) (ha : I64 a) (hb : I64 b) (h0 : b ≠ 0) :
    sgnB (decide (a < 0) != decide (b < 0)) (refQ a b) = divB a b ∧ (divB a b = true → sgnV (decide (a < 0) != decide (b < 0)) (refQ a b) = divQ a b ∧ refR a b = divR a b) := by
  obtain ⟨e1, e2⟩ := div_away a b h0
  obtain ⟨q1, q2, q3, q4⟩ := refQ_bd a b ha h0
  have hI := ediv_I64 a b ha h0
  by_cases hbad : a = -9223372036854775808 ∧ b = -1
  · obtain ⟨rfl, rfl⟩ := hbad
    rw [divB_no (.inr ⟨rfl, rfl⟩)]
    refine ⟨by decide, fun h => by cases h⟩
  · have hB : divB a b = true := divB_yes (by omega)
    have hI := hI hbad
    rw [hB]
    unfold divQ divR
    rw [hB, if_pos rfl, if_pos rfl, e1, e2]
    rw [e2] at hI
    by_cases h1 : a < 0 <;> by_cases h2 : b < 0
    · simp only [h1, h2, ne_eq, not_true, if_false, decide_true, bne_self_eq_false] at *
      unfold I64 at hI
      exact ⟨(sgn_up (by omega)).2, fun _ => ⟨(sgn_up (by omega)).1, trivial⟩⟩
    · rw [if_pos (by simp [h1, h2])]
      have : (decide (a < 0) != decide (b < 0)) = true := by simp [h1, h2]
      rw [this]
      exact ⟨(sgn_down (by omega)).2, fun _ => ⟨(sgn_down (by omega)).1, rfl⟩⟩
    · rw [if_pos (by simp [h1, h2])]
      have : (decide (a < 0) != decide (b < 0)) = true := by simp [h1, h2]
      rw [this]
      exact ⟨(sgn_down (by omega)).2, fun _ => ⟨(sgn_down (by omega)).1, rfl⟩⟩
    · have hx : ¬ ((a < 0) ≠ (b < 0)) := by simp [h1, h2]
      rw [if_neg hx] at hI ⊢
      have : (decide (a < 0) != decide (b < 0)) = false := by simp [h1, h2]
      rw [this]
      unfold I64 at hI
      exact ⟨(sgn_up (by omega)).2, fun _ => ⟨(sgn_up (by omega)).1, rfl⟩⟩

/-- the document's Lcm: numbers from the k-th on -/
theorem lcmGo_ref (z : Nat → Int) (k : Nat) (m : Int) (h1 : 1 ≤ m) (h2 : m ≤ 9223372036854775807) (hk : 1 ≤ z k) (hz : z k ≤ 9223372036854775807) :
    gcdF m (z k) = (Int.gcd m (z k) : Int) ∧ 1 ≤ gcdF m (z k) ∧ 1 ≤ z k / gcdF m (z k) ∧ z k / gcdF m (z k) ≤ z k := by
  obtain ⟨g1, g2, g3⟩ := gcd_pos_le m (z k) h1 h2
  rw [← g1] at g2 g3
  obtain ⟨d1, d2⟩ := div_le (z k) (gcdF m (z k)) g2 (by omega)
  have hs := (lcm_step m (z k) h1 hk).2.2.1
  rw [← g1] at hs
  refine ⟨g1, g2, ?_, d2⟩
  by_cases h0 : z k / gcdF m (z k) = 0
  · rw [h0, Int.mul_zero] at hs; omega
  · omega

end Go.Proofs.YtibmgpinfdcaoaaGreatDoor.Plain

namespace Go.Proofs.YtibmgpinfdcaoaaGreatDoor
open Go.RowKit Plain
set_option linter.unusedVariables false
set_option maxRecDepth 100000

theorem ret1 {a b : Int} (h : a = b) : Ending.returned (.int .i64 a) = .returned (.int .i64 b) := by rw [h]
theorem ret2 {a b : Int} {x y : Bool} (h : a = b) (h2 : x = y) : Ending.returned (.tuple #[.int .i64 a, .bool x]) = .returned (.tuple #[.int .i64 b, .bool y]) := by rw [h, h2]

theorem lcm_less (z : Nat → Int) (len : Nat) (most : Int) (h : most < 1) : lcmV z len most = 0 ∧ lcmB z len most = false := by
  have : lcmV z len most = 0 := if_pos h
  unfold lcmB; rw [this]; exact ⟨rfl, rfl⟩

/-- a slice's elements are the numbers z 0 .. z (len - 1) -/
def Row (w : World) (a0 : Option Addr) (len : Nat) (z : Nat → Int) : Prop :=
  ∀ i, i < len → ∃ bk off, a0 = some ⟨bk, off, none⟩ ∧ w.cell? ⟨bk, off + i, none⟩ = some (.int .i64 (z i)) ∧ I64 (z i)

set_option maxHeartbeats 400000 in
theorem gcdInt_any (a b : Int) (w : World) (ha : I64 a) (hb : I64 b) :
    Calls Tryz.prog 75 #[.int .i64 a, .int .i64 b] w fun e w' => e = .returned (.int .i64 (gcdF a b)) ∧ ∃ n, w' = w.drewN n := by
  go_enter Tryz.func75, Tryz.ntmps75
  go_wp2
  go_loopw [0, 1] (fun x y w' => ∃ (c d : Int) (n : Nat), I64 c ∧ I64 d ∧ x = .int .i64 c ∧ y = .int .i64 d ∧ Int.gcd c d = Int.gcd a b ∧ w' = w.drewN n) (fun _ y _ => (intOf y).natAbs)
  case atStart => exact ⟨a, b, 0, ha, hb, rfl, rfl, rfl, rfl⟩
  case round =>
    obtain ⟨c, d, n, hc, hd, rfl, rfl, hg, rfl⟩ := hrel
    have HG : Hid (Int.gcd c d = Int.gcd a b) := hg
    clear hg
    by_cases h0 : d = 0
    · subst h0
      have he := gcdF_end a b c hc HG.out
      have HE : Hid (gcdF a b = if c = -9223372036854775808 then 0 else if c < 0 then -c else c) := he
      clear he
      unfold I64 at hc
      obtain ⟨hc1, hc2⟩ := hc
      by_cases h1 : c = -9223372036854775808
      · have H4 : Hid (gcdF a b = 0) := HE.out.trans (if_pos h1)
        clear HE
        subst h1
        have hw : wrap64 9223372036854775808 < 0 := by unfold wrap64; omega
        go_wp2
        go_ret
        exact ⟨ret1 H4.out.symm, n, rfl⟩
      · by_cases h2 : c < 0
        · have h3 : -9223372036854775808 < c := by omega
          have h4 := HE.out
          rw [if_neg h1, if_pos h2] at h4
          have H4 : Hid (gcdF a b = -c) := h4
          clear h4 h1
          go_wp2
          go_ret
          exact ⟨ret1 H4.out.symm, n, rfl⟩
        · have h4 := HE.out
          rw [if_neg h1, if_neg h2] at h4
          have H4 : Hid (gcdF a b = c) := h4
          clear h4 h1
          go_wp2
          go_ret
          exact ⟨ret1 H4.out.symm, n, rfl⟩
    · have hs := gcd_step c d
      have HS : Hid (Int.gcd d (c.tmod d) = Int.gcd a b) := hs.trans HG.out
      have ht := tmod_I64 c d hc
      have hl := tmod_lt c d h0
      clear hs
      go_wp2
      go_quiet (fail)
      go_wp2
      go_roundw
      case rel => exact ⟨d, c.tmod d, _, hd, ht, rfl, rfl, HS.out, World.drewN_drewN ..⟩
      case measure => simpa [intOf] using hl

theorem lcmInt_few (a0 : Option Addr) (len cap : Nat) (z : Nat → Int) (most : Int) (w : World) (h : most < 1) :
    Calls Tryz.prog 54 #[.slice a0 len cap, .int .i64 most] w fun e w' => e = .returned (.tuple #[.int .i64 (lcmV z len most), .bool (lcmB z len most)]) ∧ ∃ n, w' = w.drewN n := by
  rw [(lcm_less z len most h).1, (lcm_less z len most h).2]
  go_enter Tryz.func54, Tryz.ntmps54
  go_wp2
  go_step3
  go_wp2
  try rw [Exit.noGoto_ret]
  go_ret2
  exact ⟨rfl, 0, rfl⟩

theorem lcmInt_none (a0 : Option Addr) (cap : Nat) (z : Nat → Int) (most : Int) (w : World) (h : 1 ≤ most) :
    Calls Tryz.prog 54 #[.slice a0 0 cap, .int .i64 most] w fun e w' => e = .returned (.tuple #[.int .i64 (lcmV z 0 most), .bool (lcmB z 0 most)]) ∧ ∃ n, w' = w.drewN n := by
  have e1 : lcmV z 0 most = 1 := if_neg (by omega)
  have e2 : lcmB z 0 most = true := by unfold lcmB; rw [e1]; rfl
  rw [e1, e2]
  clear e1 e2
  go_enter Tryz.func54, Tryz.ntmps54
  go_wp2
  go_step3
  go_wp2
  go_step3
  go_wp2
  go_loopw [6, 15] (fun x y w' => x = .int .i64 1 ∧ y = .int .i64 0 ∧ w' = w) (fun _ y _ => 0)
  case atStart => exact ⟨rfl, rfl, rfl⟩
  case round =>
    obtain ⟨rfl, rfl, rfl⟩ := hrel
    go_wp2
    try rw [Exit.noGoto_ret]
    go_ret2
    exact ⟨rfl, 0, rfl⟩

set_option maxHeartbeats 800000 in
theorem lcmInt_some (bk off len cap : Nat) (z : Nat → Int) (most : Int) (w : World) (hl : len ≤ 9223372036854775807) (h : 1 ≤ most) (hm : most ≤ 9223372036854775807)
    (hc : ∀ i, i < len → w.cell? ⟨bk, off + i, none⟩ = some (.int .i64 (z i))) (hz : ∀ i, i < len → I64 (z i)) :
    Calls Tryz.prog 54 #[.slice (some ⟨bk, off, none⟩) len cap, .int .i64 most] w fun e w' => e = .returned (.tuple #[.int .i64 (lcmV z len most), .bool (lcmB z len most)]) ∧ ∃ n, w' = w.drewN n := by
  have HV : Hid (lcmV z len most = lcmGo most z len 0 1) := if_neg (by omega)
  go_enter Tryz.func54, Tryz.ntmps54
  go_wp2
  go_step3
  go_wp2
  go_step3
  go_wp2
  go_loopw [6, 15] (fun x y w' => ∃ (m : Int) (k n : Nat), 1 ≤ m ∧ m ≤ most ∧ k ≤ len ∧ x = .int .i64 m ∧ y = .int .i64 k ∧ lcmGo most z (len - k) k m = lcmV z len most ∧ w' = w.drewN n) (fun _ y _ => len - (intOf y).toNat)
  case atStart => exact ⟨1, 0, 0, by omega, by omega, by omega, rfl, rfl, HV.out.symm, rfl⟩
  case round =>
    obtain ⟨m, k, n, hm1, hm2, hk, rfl, rfl, hg, rfl⟩ := hrel
    by_cases hlt : k < len
    · have hck := hc k hlt
      have hzk := hz k hlt
      obtain ⟨g1, g2, g3⟩ := gcd_pos_le m (z k) hm1 (by omega)
      have hmI : I64 m := ⟨by omega, by omega⟩
      have hg' : lcmGo most z ((len - (k + 1)) + 1) k m = lcmV z len most := by rw [show (len - (k + 1)) + 1 = len - k by omega]; exact hg
      have gp : 1 ≤ gcdF m (z k) := by omega
      rw [← g1] at g2 g3
      obtain ⟨q1, q2⟩ := div_le most m hm1 (by omega)
      have hno : z k < 1 ∨ most / m < z k / gcdF m (z k) → lcmV z len most = 0 := fun hn => hg'.symm.trans (lcmGo_no (by rw [← g1]; exact hn))
      have hyes : ¬ (z k < 1 ∨ most / m < z k / gcdF m (z k)) → lcmGo most z (len - (k + 1)) (k + 1) (m * (z k / gcdF m (z k))) = lcmV z len most := by
        intro hn; rw [g1] at hn ⊢; exact (lcmGo_yes hn).symm.trans hg'
      have HNO : Hid (z k < 1 ∨ most / m < z k / gcdF m (z k) → lcmV z len most = 0) := hno
      have HYES : Hid (¬ (z k < 1 ∨ most / m < z k / gcdF m (z k)) → lcmGo most z (len - (k + 1)) (k + 1) (m * (z k / gcdF m (z k))) = lcmV z len most) := hyes
      have HST : Hid (1 ≤ z k → 1 ≤ m * (z k / gcdF m (z k))) := fun h1 => by rw [g1]; exact (lcm_step m (z k) hm1 h1).2.2.1
      clear hno hyes hg hg' g1 hc hz HV
      by_cases h1 : z k < 1
      · have hv : lcmV z len most = 0 := HNO.out (.inl h1)
        have HE : Hid (lcmV z len most = 0 ∧ lcmB z len most = false) := ⟨hv, by unfold lcmB; rw [hv]; rfl⟩
        clear hv HNO HYES HST
        go_wp2_with (go_at_call 75; refine (gcdInt_any _ _ _ ?_ ?_).mono ?_; all_goals first | assumption | (rintro e w' ⟨rfl, nn, hw⟩; subst hw))
        try rw [Exit.noGoto_ret]
        go_ret2
        exact ⟨ret2 HE.out.1.symm HE.out.2.symm, _, rfl⟩
      · have h1' : 1 ≤ z k := by omega
        obtain ⟨d1, d2⟩ := div_le (z k) (gcdF m (z k)) gp (by omega)
        have hzk2 := hzk.2
        by_cases h2 : most / m < z k / gcdF m (z k)
        · have hv : lcmV z len most = 0 := HNO.out (.inr h2)
          have HE : Hid (lcmV z len most = 0 ∧ lcmB z len most = false) := ⟨hv, by unfold lcmB; rw [hv]; rfl⟩
          clear hv HNO HYES HST
          go_wp2_with (go_at_call 75; refine (gcdInt_any _ _ _ ?_ ?_).mono ?_; all_goals first | assumption | (rintro e w' ⟨rfl, nn, hw⟩; subst hw))
          try rw [Exit.noGoto_ret]
          go_ret2
          exact ⟨ret2 HE.out.1.symm HE.out.2.symm, _, rfl⟩
        · have HG : Hid (lcmGo most z (len - (k + 1)) (k + 1) (m * (z k / gcdF m (z k))) = lcmV z len most) := HYES.out (by omega)
          have s1 := HST.out h1'
          have s2 : m * (z k / gcdF m (z k)) ≤ most := by
            have := lcm_fit most m (z k / gcdF m (z k)) hm1
            omega
          clear HNO HYES HST
          go_wp2_with (go_at_call 75; refine (gcdInt_any _ _ _ ?_ ?_).mono ?_; all_goals first | assumption | (rintro e w' ⟨rfl, nn, hw⟩; subst hw))
          go_roundw
          case rel => exact ⟨m * (z k / gcdF m (z k)), k + 1, _, s1, s2, by omega, rfl, by go_num, HG.out, rfl⟩
          case measure => simp [intOf]; omega
    · have hk' : k = len := by omega
      subst hk'
      have hv : m = lcmV z k most := by rw [← hg, Nat.sub_self]; rfl
      have HE : Hid (m = lcmV z k most ∧ true = lcmB z k most) := ⟨hv, by unfold lcmB; rw [← hv]; simp; omega⟩
      clear hv hg HV hc hz
      go_wp2
      try rw [Exit.noGoto_ret]
      go_ret2
      exact ⟨ret2 HE.out.1 (by rw [← HE.out.2]; simp; omega), _, rfl⟩

theorem lcmInt_any (a0 : Option Addr) (len cap : Nat) (z : Nat → Int) (most : Int) (w : World) (hl : len ≤ 9223372036854775807) (hm : I64 most) (hr : Row w a0 len z) :
    Calls Tryz.prog 54 #[.slice a0 len cap, .int .i64 most] w fun e w' => e = .returned (.tuple #[.int .i64 (lcmV z len most), .bool (lcmB z len most)]) ∧ ∃ n, w' = w.drewN n := by
  by_cases h : most < 1
  · exact lcmInt_few a0 len cap z most w h
  by_cases h0 : len = 0
  · subst h0; exact lcmInt_none a0 cap z most w (by omega)
  obtain ⟨bk, off, rfl, _, _⟩ := hr 0 (by omega)
  refine lcmInt_some bk off len cap z most w hl (by omega) hm.2 (fun i hi => ?_) (fun i hi => ?_)
  · obtain ⟨b2, o2, e, hc, _⟩ := hr i hi
    simp only [Option.some.injEq, Addr.mk.injEq, and_true] at e
    obtain ⟨rfl, rfl⟩ := e
    exact hc
  · obtain ⟨_, _, _, _, hz⟩ := hr i hi
    exact hz


end Go.Proofs.YtibmgpinfdcaoaaGreatDoor
