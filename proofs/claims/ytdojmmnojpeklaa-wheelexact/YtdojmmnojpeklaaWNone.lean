/-
  WheelExact's own body, where there is nothing to play.
-/
import Derived.Test.YtdojmmnojpeklaaWBody
namespace Go.Proofs.Ytdojmmnojpeklaa
open Go.RowKit
set_option linter.unusedVariables false
set_option maxRecDepth 100000

set_option maxHeartbeats 4000000 in
theorem exact_bb (W : World) (x : Int) (hx : x < 0 ∨ x > 1099511627776) (y : Int) (hy : y < 0 ∨ y > 1099511627776) (sa : Option Addr) (N sc : Nat) (h1 : N ≤ sc) (h2 : sc ≤ 9223372036854775807) : Calls Try.prog 5 #[.int .i64 x, .int .i64 y, .slice sa N sc] W fun ex w' => ex = .returned (.bool true) ∧ Below W.heap.size W w' := by
  go_enter Try.func5, Try.ntmps5
  have cw1 := new_no x hx W
  go_upto_region 2 with (go_at_call 18; refine cw1.mono ?_; rintro ex w1 ⟨rfl, hw⟩; have hb1 : Below W.heap.size W w1 := (by rw [hw]; exact Below.refl _ _); clear hw cw1)
  have cw2 := new_no y hy w1
  go_upto_region 3 with (go_at_call 18; refine cw2.mono ?_; rintro ex w2 ⟨rfl, hw⟩; have hb2 : Below w1.heap.size w1 w2 := (by rw [hw]; exact Below.refl _ _); clear hw cw2)
  have cw3 := rnew_no x hx w2
  unfold mv at cw3
  go_upto_region 4 with (go_at_call 19; refine cw3.mono ?_; rintro ex w3 ⟨rfl, hb3⟩; clear cw3)
  have hb4 : Below w2.heap.size w2 (w3.alloc (.cells #[.int .i64 0, .slice none 0 0] 47)) := hb3.trans (((Below.refl _ w3).alloc (Nat.le_refl _) _).mono hb3.size)
  generalize w3.alloc (.cells #[.int .i64 0, .slice none 0 0] 47) = w4 at *
  have cw5 := rnew_no y hy w4
  unfold mv at cw5
  go_upto_region 5 with (go_at_call 19; refine cw5.mono ?_; rintro ex w5 ⟨rfl, hb5⟩; clear cw5)
  have hb6 : Below w4.heap.size w4 (w5.alloc (.cells #[.int .i64 0, .slice none 0 0] 47)) := hb5.trans (((Below.refl _ w5).alloc (Nat.le_refl _) _).mono hb5.size)
  generalize w5.alloc (.cells #[.int .i64 0, .slice none 0 0] 47) = w6 at *
  have HB : Hid (Below W.heap.size W w6) := (by
    have e2 := hb1.trans (hb2.mono hb1.size)
    have e4 := e2.trans (hb4.mono e2.size)
    exact e4.trans (hb6.mono e4.size))
  clear hb1 hb2 hb3 hb4 hb5 hb6
  go_wp2
  go_ret
  exact ⟨rfl, HB.out⟩
set_option maxHeartbeats 4000000 in
theorem exact_bg (W : World) (x : Int) (hx : x < 0 ∨ x > 1099511627776) (y : Nat) (hy : y ≤ 1099511627776) (sa : Option Addr) (N sc : Nat) (h1 : N ≤ sc) (h2 : sc ≤ 9223372036854775807) : Calls Try.prog 5 #[.int .i64 x, .int .i64 y, .slice sa N sc] W fun ex w' => ex = .returned (.bool true) ∧ Below W.heap.size W w' := by
  go_enter Try.func5, Try.ntmps5
  have cw1 := new_no x hx W
  go_upto_region 2 with (go_at_call 18; refine cw1.mono ?_; rintro ex w1 ⟨rfl, hw⟩; have hb1 : Below W.heap.size W w1 := (by rw [hw]; exact Below.refl _ _); clear hw cw1)
  have cw2 := new_wh y hy w1
  go_upto_region 3 with (go_at_call 18; refine cw2.mono ?_; rintro ex w2 ⟨bw2, rfl, -, hb2⟩; clear cw2)
  have cw3 := rnew_no x hx w2
  unfold mv at cw3
  go_upto_region 4 with (go_at_call 19; refine cw3.mono ?_; rintro ex w3 ⟨rfl, hb3⟩; clear cw3)
  have hb4 : Below w2.heap.size w2 (w3.alloc (.cells #[.int .i64 0, .slice none 0 0] 47)) := hb3.trans (((Below.refl _ w3).alloc (Nat.le_refl _) _).mono hb3.size)
  generalize w3.alloc (.cells #[.int .i64 0, .slice none 0 0] 47) = w4 at *
  have cw5 := rnew_yes y hy w4
  unfold mv at cw5
  go_upto_region 5 with (go_at_call 19; refine cw5.mono ?_; rintro ex w5 ⟨rfl, hb5⟩; clear cw5)
  have hb6 : Below w4.heap.size w4 (w5.alloc (.cells #[.int .i64 y, .slice none 0 0] 47)) := hb5.trans (((Below.refl _ w5).alloc (Nat.le_refl _) _).mono hb5.size)
  generalize w5.alloc (.cells #[.int .i64 y, .slice none 0 0] 47) = w6 at *
  have HB : Hid (Below W.heap.size W w6) := (by
    have e2 := hb1.trans (hb2.mono hb1.size)
    have e4 := e2.trans (hb4.mono e2.size)
    exact e4.trans (hb6.mono e4.size))
  clear hb1 hb2 hb3 hb4 hb5 hb6
  go_wp2
  go_ret
  exact ⟨rfl, HB.out⟩
set_option maxHeartbeats 4000000 in
theorem exact_gb (W : World) (x : Nat) (hx : x ≤ 1099511627776) (y : Int) (hy : y < 0 ∨ y > 1099511627776) (sa : Option Addr) (N sc : Nat) (h1 : N ≤ sc) (h2 : sc ≤ 9223372036854775807) : Calls Try.prog 5 #[.int .i64 x, .int .i64 y, .slice sa N sc] W fun ex w' => ex = .returned (.bool true) ∧ Below W.heap.size W w' := by
  go_enter Try.func5, Try.ntmps5
  have cw1 := new_wh x hx W
  go_upto_region 2 with (go_at_call 18; refine cw1.mono ?_; rintro ex w1 ⟨bw1, rfl, -, hb1⟩; clear cw1)
  have cw2 := new_no y hy w1
  go_upto_region 3 with (go_at_call 18; refine cw2.mono ?_; rintro ex w2 ⟨rfl, hw⟩; have hb2 : Below w1.heap.size w1 w2 := (by rw [hw]; exact Below.refl _ _); clear hw cw2)
  have cw3 := rnew_yes x hx w2
  unfold mv at cw3
  go_upto_region 4 with (go_at_call 19; refine cw3.mono ?_; rintro ex w3 ⟨rfl, hb3⟩; clear cw3)
  have hb4 : Below w2.heap.size w2 (w3.alloc (.cells #[.int .i64 x, .slice none 0 0] 47)) := hb3.trans (((Below.refl _ w3).alloc (Nat.le_refl _) _).mono hb3.size)
  generalize w3.alloc (.cells #[.int .i64 x, .slice none 0 0] 47) = w4 at *
  have cw5 := rnew_no y hy w4
  unfold mv at cw5
  go_upto_region 5 with (go_at_call 19; refine cw5.mono ?_; rintro ex w5 ⟨rfl, hb5⟩; clear cw5)
  have hb6 : Below w4.heap.size w4 (w5.alloc (.cells #[.int .i64 0, .slice none 0 0] 47)) := hb5.trans (((Below.refl _ w5).alloc (Nat.le_refl _) _).mono hb5.size)
  generalize w5.alloc (.cells #[.int .i64 0, .slice none 0 0] 47) = w6 at *
  have HB : Hid (Below W.heap.size W w6) := (by
    have e2 := hb1.trans (hb2.mono hb1.size)
    have e4 := e2.trans (hb4.mono e2.size)
    exact e4.trans (hb6.mono e4.size))
  clear hb1 hb2 hb3 hb4 hb5 hb6
  go_wp2
  go_ret
  exact ⟨rfl, HB.out⟩
set_option maxHeartbeats 4000000 in
theorem exact_gg (W : World) (x : Nat) (hx : x ≤ 1099511627776) (y : Nat) (hy : y ≤ 1099511627776) (sa : Option Addr) (N sc : Nat) (h1 : N ≤ sc) (h2 : sc ≤ 9223372036854775807) (hN : N > 3000) : Calls Try.prog 5 #[.int .i64 x, .int .i64 y, .slice sa N sc] W fun ex w' => ex = .returned (.bool true) ∧ Below W.heap.size W w' := by
  go_enter Try.func5, Try.ntmps5
  have cw1 := new_wh x hx W
  go_upto_region 2 with (go_at_call 18; refine cw1.mono ?_; rintro ex w1 ⟨bw1, rfl, -, hb1⟩; clear cw1)
  have cw2 := new_wh y hy w1
  go_upto_region 3 with (go_at_call 18; refine cw2.mono ?_; rintro ex w2 ⟨bw2, rfl, -, hb2⟩; clear cw2)
  have cw3 := rnew_yes x hx w2
  unfold mv at cw3
  go_upto_region 4 with (go_at_call 19; refine cw3.mono ?_; rintro ex w3 ⟨rfl, hb3⟩; clear cw3)
  have hb4 : Below w2.heap.size w2 (w3.alloc (.cells #[.int .i64 x, .slice none 0 0] 47)) := hb3.trans (((Below.refl _ w3).alloc (Nat.le_refl _) _).mono hb3.size)
  generalize w3.alloc (.cells #[.int .i64 x, .slice none 0 0] 47) = w4 at *
  have cw5 := rnew_yes y hy w4
  unfold mv at cw5
  go_upto_region 5 with (go_at_call 19; refine cw5.mono ?_; rintro ex w5 ⟨rfl, hb5⟩; clear cw5)
  have hb6 : Below w4.heap.size w4 (w5.alloc (.cells #[.int .i64 y, .slice none 0 0] 47)) := hb5.trans (((Below.refl _ w5).alloc (Nat.le_refl _) _).mono hb5.size)
  generalize w5.alloc (.cells #[.int .i64 y, .slice none 0 0] 47) = w6 at *
  have HB : Hid (Below W.heap.size W w6) := (by
    have e2 := hb1.trans (hb2.mono hb1.size)
    have e4 := e2.trans (hb4.mono e2.size)
    exact e4.trans (hb6.mono e4.size))
  clear hb1 hb2 hb3 hb4 hb5 hb6
  go_wp2
  go_ret
  exact ⟨rfl, HB.out⟩
theorem exact_any (hplay : PlaySpec) (W : World) (x y : Int) (sa : Option Addr) (N sc : Nat) (os : List Oq) (hO : Oss W (fun k => k < W.heap.size) sa N sc os) : Calls Try.prog 5 #[.int .i64 x, .int .i64 y, .slice sa N sc] W fun ex w' => ex = .returned (.bool true) ∧ Below W.heap.size W w' := by
  by_cases hx : x < 0 ∨ x > 1099511627776
  · by_cases hy : y < 0 ∨ y > 1099511627776
    · exact exact_bb W x hx y hy sa N sc hO.cap hO.max
    · obtain ⟨m, rfl⟩ : ∃ m : Nat, y = m := ⟨y.toNat, by omega⟩
      exact exact_bg W x hx m (by omega) sa N sc hO.cap hO.max
  · obtain ⟨n, rfl⟩ : ∃ n : Nat, x = n := ⟨x.toNat, by omega⟩
    by_cases hy : y < 0 ∨ y > 1099511627776
    · exact exact_gb W n (by omega) y hy sa N sc hO.cap hO.max
    · obtain ⟨m, rfl⟩ : ∃ m : Nat, y = m := ⟨y.toNat, by omega⟩
      by_cases hN : N ≤ 3000
      · exact exact_yes hplay W n m (by omega) (by omega) sa N sc os hO hN
      · exact exact_gg W n (by omega) m (by omega) sa N sc hO.cap hO.max (by omega)
end Go.Proofs.Ytdojmmnojpeklaa
