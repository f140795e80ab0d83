/-
  short: few enough objects?
-/
import Derived.Test.YtggkajopfbokjaaORefL
namespace Go.Proofs.Ytggkajopfbokjaa
open Go.RowKit
set_option linter.unusedVariables false
set_option maxRecDepth 100000

set_option maxHeartbeats 4000000 in
theorem short_any {F : Nat → Prop} {A : Array Value} {sa ea ba : Option Addr} {n sc ne ec nb bc : Nat} {p' q' : Nat → Int} (w : World) (hA : A.size = 21) (h18 : A[18]? = some (.slice sa n sc)) (h19 : A[19]? = some (.slice ea ne ec)) (h20 : A[20]? = some (.slice ba nb bc)) (hb : Pp w F ba nb bc p' q') :
    Calls Try.prog 15 #[.agg A] w fun e w' => (e = .returned (.bool true) ∧ Kept No w w' ∧ n ≤ 300 ∧ ne ≤ 300 ∧ nb ≤ 300 ∧ ∀ i, i < nb → q' i ≤ 100000) ∨ (e = .returned (.bool false) ∧ Kept No w w') := by
  have hbc := hb.cap
  have hbm := hb.max
  have B1 : Hid (Kept No w (w.alloc (.cells A 37)) ∧ (w.alloc (.cells A 37)).heap[w.heap.size]? = some (.cells A 37)) := ⟨(Kept.refl No w).alloc _, alloc_new w _⟩
  have c18 : (w.alloc (.cells A 37)).cell? ⟨w.heap.size, 18, none⟩ = some (.slice sa n sc) := (cell_of_row _ _ 18 _ _ _ B1.out.2).trans h18
  have c19 : (w.alloc (.cells A 37)).cell? ⟨w.heap.size, 19, none⟩ = some (.slice ea ne ec) := (cell_of_row _ _ 19 _ _ _ B1.out.2).trans h19
  have c20 : (w.alloc (.cells A 37)).cell? ⟨w.heap.size, 20, none⟩ = some (.slice ba nb bc) := (cell_of_row _ _ 20 _ _ _ B1.out.2).trans h20
  have HB := hid hb
  clear hb h18 h19 h20
  go_enter Try.func15, Try.ntmps15
  go_upto_region 1 with fail
  clear hA
  generalize (w.alloc (.cells A 37)) = w1 at *
  by_cases q1 : 300 < (n : Int)
  · go_wp2
    go_ret
    exact .inr ⟨rfl, B1.out.1⟩
  · by_cases q2 : 300 < (ne : Int)
    · go_wp2
      go_ret
      exact .inr ⟨rfl, B1.out.1⟩
    · by_cases q3 : 300 < (nb : Int)
      · go_wp2
        go_ret
        exact .inr ⟨rfl, B1.out.1⟩
      · go_upto_region 4 with fail
        clear c18 c19
        go_loopw [3] (fun x wr => ∃ (k : Nat), k ≤ nb ∧ x = .int .i64 k ∧ wr = w1 ∧ ∀ i, i < k → q' i ≤ 100000) (fun x _ => nb - (intOf x).toNat)
        case atStart => exact ⟨0, Nat.zero_le _, rfl, rfl, fun i hi => by omega⟩
        case round =>
          obtain ⟨k, hk, rfl, rfl, hok⟩ := hrel
          have HOK := hid hok
          clear hok
          by_cases hlt : k < nb
          · have hltz : (k : Int) < (nb : Int) := by omega
            obtain ⟨b1, o1, rfl, _, m0, m1⟩ := (HB.out.kept B1.out.1 (fun _ _ e => e)).at' k hlt
            clear m0
            by_cases hd : 100000 < q' k
            · go_wp2
              go_ret
              exact .inr ⟨rfl, B1.out.1⟩
            · go_wp2
              go_roundw
              case rel =>
                refine ⟨k + 1, by omega, by go_num, by first | rfl | trivial, fun i hi => ?_⟩
                by_cases hik : i < k
                · exact HOK.out i hik
                · have : i = k := by omega
                  subst this
                  omega
              case measure => simp [intOf]; omega
          · have hltz : ¬ (k : Int) < (nb : Int) := by omega
            go_wp2
            go_ret
            exact .inl ⟨rfl, B1.out.1, by omega, by omega, by omega, fun i hi => HOK.out i (by omega)⟩
end Go.Proofs.Ytggkajopfbokjaa
