/-
  Show of any instruction; the one line that the statements know.
-/
import Derived.Test.YtkmhpbjegkhabaaDoorShowYes
namespace Go.Proofs.YtkmhpbjegkhabaaDoor
open Go.RowKit
set_option linter.unusedVariables false

def shw (o a b c n : Int) : ByteArray := if lg o a b c n then ⟨(line o a b c n).toArray⟩ else ⟨#[]⟩

theorem nm_size : ∀ k, k < 27 → 0 < (nms.getD (k + 1) []).length ∧ (nms.getD (k + 1) []).length ≤ 4 := by decide
theorem sh_size : ∀ k, k < 27 → (shs.getD (k + 1) []).length ≤ 3 := by decide

abbrev Pow (w : World) : Prop := Lib.TabIs Tryd.prog w "internal/strconv.uint64pow10" .u64 Lib.pow10Tab
theorem Pow.below {w w' : World} (h : Pow w) (b : Below w.heap.size w w') : Pow w' := Lib.tabBelow_of_tabIs h w' b

set_option maxHeartbeats 4000000 in
theorem show_any (o a b c n : Int) (ho : 0 ≤ o ∧ o < 256) (ha : 0 ≤ a ∧ a < 256) (hb : 0 ≤ b ∧ b < 256) (hc : 0 ≤ c ∧ c < 256) (hn : -2147483648 ≤ n ∧ n ≤ 2147483647) (w : World) (hO : Ops w) (hT : Pow w) :
    Calls Tryd.prog 21 #[insV o a b c n] w fun ex w' => ex = .returned (.tuple #[.string (shw o a b c n), .bool (lg o a b c n)]) ∧ Below w.heap.size w w' := by
  cases hl : lg o a b c n
  · have e : shw o a b c n = ⟨#[]⟩ := by unfold shw; rw [hl]; rfl
    rw [e]
    have hbx : Below w.heap.size w (box w o a b c n) := (Below.refl _ w).alloc (Nat.le_refl _) _
    have c20 := via (legal_any o a b c n ho ha hb hc (box w o a b c n) (hO.below hbx hO.pos)) (Below.refl (w.heap.size + 1) (box w o a b c n)) (by simp)
    rw [hl] at c20
    have HBX : Hid (Below w.heap.size w (box w o a b c n)) := hbx
    unfold insV at *
    clear hO hT hl e hbx ho ha hb hc hn
    go_enter Tryd.func21, Tryd.ntmps21
    go_wp2_with (go_at_call 20; refine c20.mono ?_; rintro ex w1 ⟨rfl, b1⟩; have bw1 := HBX.out.trans (b1.mono (Nat.le_succ _)))
    go_ret2
    exact ⟨rfl, bw1⟩
  · have hk : kn o = true := by unfold lg at hl; cases h : kn o <;> simp [h] at hl; rfl
    have hk2 : 1 ≤ o ∧ o ≤ 27 := by unfold kn at hk; simpa using hk
    obtain ⟨k, rfl⟩ : ∃ k : Nat, o = (k : Int) + 1 := ⟨(o - 1).toNat, by omega⟩
    have hk3 : k < 27 := by omega
    have e1 := nm_yes hk3
    have e2 := sh_yes hk3
    have n1 := nm_size k hk3
    have n2 := sh_size k hk3
    have s1 : (nmB (k + 1)).size = (nms.getD (k + 1) []).length := by unfold nmB; simp [ByteArray.size]
    have s2 : (shB (k + 1)).size = (shs.getD (k + 1) []).length := by unfold shB; simp [ByteArray.size]
    have cy := show_yes ((k : Int) + 1) a b c n ho ha hb hc hn w hO hT hl (nmB (k + 1)) (shB (k + 1)) e1.symm e2.symm (by omega) (by omega) (by omega) hk
    have e : shw ((k : Int) + 1) a b c n = ⟨((nmB (k + 1)).data.toList ++ tail a b c n (shB (k + 1)).data.toList).toArray⟩ := by
      unfold shw line
      rw [hl, show ((k : Int) + 1).toNat = k + 1 by omega]
      unfold nmB shB
      simp
    rw [e]
    exact cy

theorem line18 : shw 18 1 2 0 (-2) = ⟨#[97, 100, 100, 105, 32, 114, 49, 32, 114, 50, 32, 45, 50]⟩ := by
  have h1 : Lib.itoa 1 = [49] := by unfold Lib.itoa; rw [if_neg (by decide), show (1 : Int).toNat = 1 from rfl, Lib.decDigits_one (by decide)]; rfl
  have h2 : Lib.itoa 2 = [50] := by unfold Lib.itoa; rw [if_neg (by decide), show (2 : Int).toNat = 2 from rfl, Lib.decDigits_one (by decide)]; rfl
  have h3 : Lib.itoa (-2) = [45, 50] := by unfold Lib.itoa; rw [if_pos (by decide), show (-2 : Int).natAbs = 2 from rfl, Lib.decDigits_one (by decide)]; rfl
  have hl : lg 18 1 2 0 (-2) = true := by decide
  unfold shw
  rw [hl]
  unfold line tail
  have e1 : nms.getD (18 : Int).toNat [] = [97, 100, 100, 105] := rfl
  have e2 : shs.getD (18 : Int).toNat [] = [97, 98, 110] := rfl
  rw [e1, e2]
  simp [opd, h1, h2, h3]

set_option maxHeartbeats 4000000 in
theorem known_walk (w : World) (hO : Ops w) (hT : Pow w) : Calls Tryd.prog 14 #[] w fun ex w' => ex = .returned (.bool true) ∧ Below w.heap.size w w' := by
  have c21 := show_any 18 1 2 0 (-2) (by decide) (by decide) (by decide) (by decide) (by decide) w hO hT
  rw [line18, show lg 18 1 2 0 (-2) = true by decide] at c21
  have c16 := fun w0 (hb : Below w.heap.size w w0) => via (encode_any 18 1 2 0 (-2) (by decide) w0) hb (Nat.le_refl _)
  have e : encV 18 1 2 0 (-2) = bytV 18 1 2 0 255 255 255 254 := by unfold encV; rfl
  rw [e] at c16
  have q := fun w0 => run_eq8 w0 18 1 2 0 255 255 255 254 18 1 2 0 255 255 255 254
  unfold bytV at *
  unfold insV at *
  clear hO hT e
  go_enter Tryd.func14, Tryd.ntmps14
  go_wp2_with (first
    | (go_at_call 21; refine c21.mono ?_; rintro ex w1 ⟨rfl, b1⟩)
    | (go_at_call 16; refine (c16 _ (by assumption)).mono ?_; rintro ex w2 ⟨rfl, b2⟩))
  go_ret
  exact ⟨rfl, b2⟩

end Go.Proofs.YtkmhpbjegkhabaaDoor
