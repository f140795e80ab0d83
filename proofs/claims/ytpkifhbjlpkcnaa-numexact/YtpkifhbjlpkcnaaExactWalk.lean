/-
  The walk of NumExact.
-/
import Derived.Test.YtpkifhbjlpkcnaaLists
namespace Go.Proofs.Ytpkifhbjlpkcnaa
open Go.RowKit Plain
set_option linter.unusedVariables false

theorem bcell {W w1 : World} (hb : Below W.heap.size W w1) : (∀ b o, b < W.heap.size → w1.cell? ⟨b, o, none⟩ = W.cell? ⟨b, o, none⟩) ∧ (∀ b o, b < W.heap.size → w1.frozen? ⟨b, o, none⟩ = W.frozen? ⟨b, o, none⟩) :=
  ⟨fun b o h => hb.cell (p := ⟨b, o, none⟩) h, fun b o h => hb.frozen (p := ⟨b, o, none⟩) h⟩

set_option maxHeartbeats 1000000 in
theorem numExact_walk (A B P F L : Int) (a0 : Option Addr) (len cap : Nat) (M : Int) (z : Nat → Int) (w : World) (hA : I64 A) (hB : I64 B) (hP : I64 P) (hF : I64 F) (hL : I64 L) (hM : I64 M)
    (hlm : len ≤ 9223372036854775807) (hnil : a0 = none → len = 0 ∧ cap = 0) (hr : Row w a0 len z) :
    Calls Try.prog 7 #[opV A B P F L a0 len cap M] w fun e w' => e = .returned (.bool true) ∧ Below w.heap.size w w' := by
  have s1 : addV 1 1 = 2 := addV_yes (by unfold I64; omega) (by unfold I64; omega) (by unfold I64; omega)
  have s2 : addB 1 1 = true := addB_yes (by unfold I64; omega) (by unfold I64; omega) (by unfold I64; omega)
  by_cases hlen : 1000 < len
  · unfold opV
    go_enter Try.func7, Try.ntmps7
    go_wp2_with (go_at_call 11; refine (add_any _ _ _).mono ?_; rintro e w' ⟨rfl, hw⟩; subst hw)
    go_ret
    exact ⟨rfl, (Below.refl _ _).alloc (Nat.le_refl _) _⟩
  · have hlen2 : len ≤ 1000 := by omega
    have hbx : Below w.heap.size w (boxed w A B P F L a0 len cap M) := (Below.refl _ _).alloc (Nat.le_refl _) _
    have TP : ∀ w, Calls Try.prog 17 #[.agg #[.int .i64 A, .int .i64 B, .int .i64 P, .int .i64 F, .int .i64 L, .slice a0 len cap, .int .i64 M]] w fun e w' => e = .returned (.bool true) ∧ Below w.heap.size w w' := fun w => pairs_any A B P F L a0 len cap M w hA hB
    have TT : ∀ w, Calls Try.prog 19 #[.agg #[.int .i64 A, .int .i64 B, .int .i64 P, .int .i64 F, .int .i64 L, .slice a0 len cap, .int .i64 M]] w fun e w' => e = .returned (.bool true) ∧ Below w.heap.size w w' := fun w => ticks_any A B P F L a0 len cap M w hA hB hP hF hL
    have TL : ∀ w', Row w' a0 len z → Calls Try.prog 18 #[.agg #[.int .i64 A, .int .i64 B, .int .i64 P, .int .i64 F, .int .i64 L, .slice a0 len cap, .int .i64 M]] w' fun e w'' => e = .returned (.bool true) ∧ Below w'.heap.size w' w'' := fun w' h => lists_any A B P F L a0 len cap M z w' hM hlen2 hnil h
    have HBX : Hid (Below w.heap.size w (boxed w A B P F L a0 len cap M)) := hbx
    have HR : Hid (Row w a0 len z) := hr
    clear hbx hr
    unfold opV
    go_enter Try.func7, Try.ntmps7
    go_upto_region 4 with (go_at_call 11; refine (add_any _ _ _).mono ?_; rintro e w' ⟨rfl, hw⟩; subst hw)
    go_wp2_with (go_at_call 17; refine (TP _).mono ?_; rintro e w1 ⟨rfl, hb1⟩; obtain ⟨hc1, hf1⟩ := bcell hb1)
    have hbw1 : Below w.heap.size w w1 := HBX.out.trans (hb1.mono (by simp))
    have hr1 : Row w1 a0 len z := HR.out.below hbw1
    have hz1 : w.heap.size + 1 ≤ w1.heap.size := by simpa using hb1.size
    have HBW1 : Hid (Below w.heap.size w w1) := hbw1
    have hz2 : w.heap.size < w1.heap.size := by omega
    clear hb1 hbw1
    go_wp2_with (go_at_call 18; refine (TL _ hr1).mono ?_; rintro e w2 ⟨rfl, hb2⟩; obtain ⟨hc2, hf2⟩ := bcell hb2)
    have HBW2 : Hid (Below w.heap.size w w2) := HBW1.out.trans (hb2.mono (by omega))
    clear hb2
    go_wp2_with (go_at_call 19; refine (TT _).mono ?_; rintro e w3 ⟨rfl, hb3⟩)
    go_ret
    exact ⟨rfl, HBW2.out.trans (hb3.mono HBW2.out.size)⟩

end Go.Proofs.Ytpkifhbjlpkcnaa
