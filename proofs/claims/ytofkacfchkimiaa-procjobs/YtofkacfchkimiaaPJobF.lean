/-
  ProcJobs: fits.
-/
import Derived.Test.YtofkacfchkimiaaPJobA
namespace Go.Proofs.Ytofkacfchkimiaa
open Go.RowKit Plain
set_option linter.unusedVariables false
set_option maxRecDepth 100000

set_option maxHeartbeats 4000000 in
theorem fits_done {q : Nat} {rel mis : Int} {late over : Bool} (A : Array Value) (hA : A.size = 28) (a0 : A[0]? = some (.int .i64 3)) (a20 : A[20]? = some (.int .i64 rel)) (a21 : A[21]? = some (.int .i64 (-1))) (un : Int) (a22 : A[22]? = some (.int .i64 un)) (a27 : A[27]? = some (.int .i64 mis)) (n lim : Int) (hu : n < un) (w : World) (hq : w.heap[q]? = some (.cells #[.int .i64 rel, .int .i64 mis, .bool true, .bool late, .bool over] 55)) :
    Calls Try.prog 20 #[.pointer (some ⟨q, 0, none⟩), .agg A, .int .i64 lim, .int .i64 n] w fun e w' => e = .returned (.bool true) ∧ Kept No w w' := by
  have k1 : Kept No w (w.alloc (.cells A 48)) := (Kept.refl No w).alloc _
  have hB := alloc_new w (.cells A 48)
  obtain ⟨c0, c1, c2, c3, c4⟩ := bx5 (k1.at' hq (fun h => h))
  have d0 := (cell_of_row _ _ 0 _ _ _ hB).trans a0
  have d20 := (cell_of_row _ _ 20 _ _ _ hB).trans a20
  have d21 := (cell_of_row _ _ 21 _ _ _ hB).trans a21
  have d22 := (cell_of_row _ _ 22 _ _ _ hB).trans a22
  have d27 := (cell_of_row _ _ 27 _ _ _ hB).trans a27
  have HK : Hid (Kept No w (w.alloc (.cells A 48))) := k1
  clear a0 a20 a21 a22 a27 hB k1 hq
  go_enter Try.func20, Try.ntmps20
  go_upto_region 1 with fail
  generalize (w.alloc (.cells A 48)) = w1 at *
  have mm : (mis != mis) = false := by simp
  have rr : (rel != rel) = false := by simp
  go_quiet (fail)
  go_wp2
  go_ret
  exact ⟨rfl, HK.out.drewN _⟩
set_option maxHeartbeats 4000000 in
theorem fits_not {q : Nat} {rel mis : Int} {late over : Bool} (A : Array Value) (hA : A.size = 28) (a0 : A[0]? = some (.int .i64 1)) (a20 : A[20]? = some (.int .i64 rel)) (dl : Int) (a21 : A[21]? = some (.int .i64 dl)) (a23 : A[23]? = some (.bool late)) (a27 : A[27]? = some (.int .i64 mis)) (n lim : Int) (hd : dl = if 0 < lim ∧ over = false then rel + lim else -1) (h0 : 0 ≤ rel) (h1 : rel ≤ 700000000000) (hl : 0 ≤ lim) (hl2 : lim ≤ 200) (w : World) (hq : w.heap[q]? = some (.cells #[.int .i64 rel, .int .i64 mis, .bool false, .bool late, .bool over] 55)) :
    Calls Try.prog 20 #[.pointer (some ⟨q, 0, none⟩), .agg A, .int .i64 lim, .int .i64 n] w fun e w' => e = .returned (.bool true) ∧ Kept No w w' := by
  have k1 : Kept No w (w.alloc (.cells A 48)) := (Kept.refl No w).alloc _
  have hB := alloc_new w (.cells A 48)
  obtain ⟨c0, c1, c2, c3, c4⟩ := bx5 (k1.at' hq (fun h => h))
  have d0 := (cell_of_row _ _ 0 _ _ _ hB).trans a0
  have d20 := (cell_of_row _ _ 20 _ _ _ hB).trans a20
  have d21 := (cell_of_row _ _ 21 _ _ _ hB).trans a21
  have d23 := (cell_of_row _ _ 23 _ _ _ hB).trans a23
  have d27 := (cell_of_row _ _ 27 _ _ _ hB).trans a27
  have HK : Hid (Kept No w (w.alloc (.cells A 48))) := k1
  clear a0 a20 a21 a23 a27 hB k1 hq
  have mm : (mis != mis) = false := by simp
  have rr : (rel != rel) = false := by simp
  have ll : (late != late) = false := by simp
  by_cases hc : 0 < lim
  · cases over with
    | false =>
      rw [if_pos ⟨hc, rfl⟩] at hd
      subst hd
      go_enter Try.func20, Try.ntmps20
      go_upto_region 1 with fail
      generalize (w.alloc (.cells A 48)) = w1 at *
      go_quiet (fail)
      go_wp2
      go_ret
      exact ⟨by simp, HK.out.drewN _⟩
    | true =>
      rw [if_neg (fun e => by cases e.2)] at hd
      subst hd
      go_enter Try.func20, Try.ntmps20
      go_upto_region 1 with fail
      generalize (w.alloc (.cells A 48)) = w1 at *
      go_quiet (fail)
      go_wp2
      go_ret
      exact ⟨rfl, HK.out.drewN _⟩
  · rw [if_neg (fun e => hc e.1)] at hd
    subst hd
    go_enter Try.func20, Try.ntmps20
    go_upto_region 1 with fail
    generalize (w.alloc (.cells A 48)) = w1 at *
    go_quiet (fail)
    go_wp2
    go_ret
    exact ⟨rfl, HK.out.drewN _⟩
end Go.Proofs.Ytofkacfchkimiaa
