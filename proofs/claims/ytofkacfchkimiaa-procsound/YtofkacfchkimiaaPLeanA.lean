/-
  lean, whole.
-/
import Derived.Test.YtofkacfchkimiaaPSt28
import Derived.Test.YtofkacfchkimiaaPSndP
namespace Go.Proofs.Ytofkacfchkimiaa
open Go.RowKit
set_option linter.unusedVariables false
set_option linter.unusedSimpArgs false
set_option maxRecDepth 100000

theorem bx_cell {w : World} {A : Array Value} {t : TypeId} {j : Nat} {v : Value} (h : A[j]? = some v) : (w.alloc (.cells A t)).cell? ⟨w.heap.size, j, none⟩ = some v := cell_row (alloc_new w _) h
theorem rg_cell {w : World} (p : Pr) (v : Value) : ∀ j, j < 16 → (w.alloc (.cells (p.val v) 48)).cell? ⟨w.heap.size, 3 + j, none⟩ = some (.int .i64 (p.rg j))
  | 0, _ => bx_cell rfl
  | 1, _ => bx_cell rfl
  | 2, _ => bx_cell rfl
  | 3, _ => bx_cell rfl
  | 4, _ => bx_cell rfl
  | 5, _ => bx_cell rfl
  | 6, _ => bx_cell rfl
  | 7, _ => bx_cell rfl
  | 8, _ => bx_cell rfl
  | 9, _ => bx_cell rfl
  | 10, _ => bx_cell rfl
  | 11, _ => bx_cell rfl
  | 12, _ => bx_cell rfl
  | 13, _ => bx_cell rfl
  | 14, _ => bx_cell rfl
  | 15, _ => bx_cell rfl
  | j + 16, h => by omega
set_option maxHeartbeats 4000000 in
theorem lean_any (w : World) {p : Pr} {pl : Int} {q M : Nat} (L : Ln p pl q M) (a : Option Addr) (c : Nat) : Calls Try.prog 63 #[.agg (p.val (.slice a p.ws.length c))] w fun e w' => e = .returned (.bool true) ∧ Kept No w w' := by
  obtain ⟨A, hA⟩ : ∃ A, A = p.val (.slice a p.ws.length c) := ⟨_, rfl⟩
  rw [← hA]
  have x0 : (w.alloc (.cells A 48)).cell? ⟨w.heap.size, 0, none⟩ = some (.int .i64 p.st) := bx_cell (by rw [hA]; rfl)
  have x1 : (w.alloc (.cells A 48)).cell? ⟨w.heap.size, 1, none⟩ = some (.int .i64 p.pri) := bx_cell (by rw [hA]; rfl)
  have x2 : (w.alloc (.cells A 48)).cell? ⟨w.heap.size, 2, none⟩ = some (.int .i64 p.pl) := bx_cell (by rw [hA]; rfl)
  have x19 : (w.alloc (.cells A 48)).cell? ⟨w.heap.size, 19, none⟩ = some (.int .i64 p.pc) := bx_cell (by rw [hA]; rfl)
  have x20 : (w.alloc (.cells A 48)).cell? ⟨w.heap.size, 20, none⟩ = some (.int .i64 p.rel) := bx_cell (by rw [hA]; rfl)
  have x21 : (w.alloc (.cells A 48)).cell? ⟨w.heap.size, 21, none⟩ = some (.int .i64 p.dl) := bx_cell (by rw [hA]; rfl)
  have x22 : (w.alloc (.cells A 48)).cell? ⟨w.heap.size, 22, none⟩ = some (.int .i64 p.un) := bx_cell (by rw [hA]; rfl)
  have x23 : (w.alloc (.cells A 48)).cell? ⟨w.heap.size, 23, none⟩ = some (.bool p.late) := bx_cell (by rw [hA]; rfl)
  have x24 : (w.alloc (.cells A 48)).cell? ⟨w.heap.size, 24, none⟩ = some (.int .i64 p.ob) := bx_cell (by rw [hA]; rfl)
  have x25 : (w.alloc (.cells A 48)).cell? ⟨w.heap.size, 25, none⟩ = some (.int .i64 p.ad) := bx_cell (by rw [hA]; rfl)
  have x26 : (w.alloc (.cells A 48)).cell? ⟨w.heap.size, 26, none⟩ = some (.slice a p.ws.length c) := bx_cell (by rw [hA]; rfl)
  have HK : Hid (Kept No w (w.alloc (.cells A 48))) := (Kept.refl No w).alloc _
  have RG := hid (fun j hj => rg_cell (w := w) p (.slice a p.ws.length c) j hj)
  rw [← hA] at RG
  clear hA
  by_cases h0 : p.st = 0
  · obtain ⟨d1, d2, d3, d4, d5, d6, d7, d8, d9, d10, d11⟩ := L.dorm h0
    have rg : ∀ j, j < 16 → (w.alloc (.cells A 48)).cell? ⟨w.heap.size, 3 + j, none⟩ = some (.int .i64 0) := fun j hj => by rw [RG.out j hj, d11 j hj]
    have z0 : (w.alloc (.cells A 48)).cell? ⟨w.heap.size, 3, none⟩ = some (.int .i64 0) := rg 0 (by decide)
    have z1 : (w.alloc (.cells A 48)).cell? ⟨w.heap.size, 4, none⟩ = some (.int .i64 0) := rg 1 (by decide)
    have z2 : (w.alloc (.cells A 48)).cell? ⟨w.heap.size, 5, none⟩ = some (.int .i64 0) := rg 2 (by decide)
    have z3 : (w.alloc (.cells A 48)).cell? ⟨w.heap.size, 6, none⟩ = some (.int .i64 0) := rg 3 (by decide)
    have z4 : (w.alloc (.cells A 48)).cell? ⟨w.heap.size, 7, none⟩ = some (.int .i64 0) := rg 4 (by decide)
    have z5 : (w.alloc (.cells A 48)).cell? ⟨w.heap.size, 8, none⟩ = some (.int .i64 0) := rg 5 (by decide)
    have z6 : (w.alloc (.cells A 48)).cell? ⟨w.heap.size, 9, none⟩ = some (.int .i64 0) := rg 6 (by decide)
    have z7 : (w.alloc (.cells A 48)).cell? ⟨w.heap.size, 10, none⟩ = some (.int .i64 0) := rg 7 (by decide)
    have z8 : (w.alloc (.cells A 48)).cell? ⟨w.heap.size, 11, none⟩ = some (.int .i64 0) := rg 8 (by decide)
    have z9 : (w.alloc (.cells A 48)).cell? ⟨w.heap.size, 12, none⟩ = some (.int .i64 0) := rg 9 (by decide)
    have z10 : (w.alloc (.cells A 48)).cell? ⟨w.heap.size, 13, none⟩ = some (.int .i64 0) := rg 10 (by decide)
    have z11 : (w.alloc (.cells A 48)).cell? ⟨w.heap.size, 14, none⟩ = some (.int .i64 0) := rg 11 (by decide)
    have z12 : (w.alloc (.cells A 48)).cell? ⟨w.heap.size, 15, none⟩ = some (.int .i64 0) := rg 12 (by decide)
    have z13 : (w.alloc (.cells A 48)).cell? ⟨w.heap.size, 16, none⟩ = some (.int .i64 0) := rg 13 (by decide)
    have z14 : (w.alloc (.cells A 48)).cell? ⟨w.heap.size, 17, none⟩ = some (.int .i64 0) := rg 14 (by decide)
    have z15 : (w.alloc (.cells A 48)).cell? ⟨w.heap.size, 18, none⟩ = some (.int .i64 0) := rg 15 (by decide)
    rw [h0] at x0
    rw [d1] at x20
    rw [d2] at x21
    rw [d3] at x22
    rw [d4] at x1
    rw [d5] at x2
    rw [d6] at x19
    rw [d7] at x23
    rw [d8] at x24
    rw [d9] at x25
    rw [d10] at x26
    rw [show ([] : List Int).length = 0 from rfl] at x26
    have eqz : ∀ W : World, (Op.equalIn 10000 46 (.agg #[.int .i64 0, .int .i64 0, .int .i64 0, .int .i64 0, .int .i64 0, .int .i64 0, .int .i64 0, .int .i64 0, .int .i64 0, .int .i64 0, .int .i64 0, .int .i64 0, .int .i64 0, .int .i64 0, .int .i64 0, .int .i64 0]) (.agg #[.int .i64 0, .int .i64 0, .int .i64 0, .int .i64 0, .int .i64 0, .int .i64 0, .int .i64 0, .int .i64 0, .int .i64 0, .int .i64 0, .int .i64 0, .int .i64 0, .int .i64 0, .int .i64 0, .int .i64 0, .int .i64 0])).run Try.prog W = .ok true W := fun W => eq16 (fun _ => 0) W
    clear d1 d2 d3 d4 d5 d6 d7 d8 d9 d10 d11 rg RG h0 L
    go_enter Try.func63, Try.ntmps63
    go_wp2
    go_ret
    exact ⟨rfl, HK.out⟩
  clear RG
  have n0 : (p.st == 0) = false := by simp [h0]
  by_cases hi : p.st = 1 ∨ p.st = 10 ∨ p.st = 3
  · obtain ⟨d1, d2, d3, d4⟩ := L.idle hi
    rw [d1] at x24
    rw [d2] at x25
    rw [d3] at x26
    rw [show ([] : List Int).length = 0 from rfl] at x26
    by_cases h3 : p.st = 3
    · rw [h3] at x0
      clear d1 d2 d3 d4 hi h0 n0 L h3
      generalize p.un = un at *
      by_cases hu : un = -1
      · subst hu
        go_enter Try.func63, Try.ntmps63
        go_wp2
        go_ret
        exact ⟨rfl, HK.out⟩
      · have hu' : (un == -1) = false := by simp [hu]
        clear hu
        go_enter Try.func63, Try.ntmps63
        go_wp2
        go_ret
        exact ⟨rfl, HK.out⟩
    · have hu : p.un = -1 := d4.resolve_right h3
      rw [hu] at x22
      by_cases h1 : p.st = 1
      · rw [h1] at x0
        clear d1 d2 d3 d4 hi h0 n0 L h3 hu h1
        go_enter Try.func63, Try.ntmps63
        go_wp2
        go_ret
        exact ⟨rfl, HK.out⟩
      · have h10 : p.st = 10 := by omega
        rw [h10] at x0
        clear d1 d2 d3 d4 hi h0 n0 L h3 hu h1 h10
        go_enter Try.func63, Try.ntmps63
        go_wp2
        go_ret
        exact ⟨rfl, HK.out⟩
  · have n1 : (p.st == 1) = false := by simp; omega
    have n2 : (p.st == 10) = false := by simp; omega
    have n3 : (p.st == 3) = false := by simp; omega
    clear hi h0 L
    go_enter Try.func63, Try.ntmps63
    go_wp2
    go_ret
    exact ⟨rfl, HK.out⟩
end Go.Proofs.Ytofkacfchkimiaa
