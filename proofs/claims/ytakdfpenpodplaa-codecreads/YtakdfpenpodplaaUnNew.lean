/-
  'unread': how it begins.
-/
import Derived.Test.YtakdfpenpodplaaUnState
import Derived.Test.YtakdfpenpodplaaAgainWalk
namespace Go.Proofs.Ytakdfpenpodplaa
open Go.RowKit
set_option linter.unusedVariables false

theorem tk_le (xs : List Nat) (e n : Int) : (tkXs xs e n).length ≤ xs.length := by unfold tkXs; split <;> simp <;> omega
theorem tk_lt {xs : List Nat} (e n : Int) (h : ∀ x ∈ xs, x < 256) : ∀ x ∈ tkXs xs e n, x < 256 := by
  unfold tkXs
  split
  · exact fun x hx => h x (List.mem_of_mem_take hx)
  · intro x hx; cases hx
theorem gl_le (xs : List Nat) (e most : Int) : (glX xs e most).length ≤ xs.length := by
  unfold glX
  split
  · rename_i h
    rw [glEls_length]
    unfold glOk at h
    simp only [Bool.and_eq_true, decide_eq_true_eq] at h
    omega
  · simp

theorem gl_small {xs : List Nat} (e most : Int) (h : ∀ x ∈ xs, x < 256) : (glX xs e most).length ≤ 10000000000 := by
  unfold glX
  split
  · rename_i h2
    rw [glEls_length]
    have := (rdN_lt e 4 h).2
    omega
  · simp

theorem un_new {w w1 w2 : World} {a : Option Addr} {n c : Nat} {b0 : List Nat} {pr pq : Nat} (hb : Bs w (fun b => b < w.heap.size) a n c b0) (hn : n ≤ 140737488351232)
    (h1 : Rd w1 (fun k => w.heap.size ≤ k ∧ k < w1.heap.size) pr b0 0) (k1 : Below w.heap.size w w1) (h2 : Rd w2 (fun k => w1.heap.size ≤ k ∧ k < w2.heap.size) pq b0 0) (k2 : Below w1.heap.size w1 w2) :
    ∃ Fr Fq Fx Fy Fs, Un w ⟨Fr, Fq, Fx, Fy, pr, pq, w2.heap.size, w2.heap.size + 1, w2.heap.size + 2⟩ Fs b0 0 b0 0 b0 0 b0 0 [] []
      (((w2.alloc (.cells #[.slice a n c, .int .i64 0, .int .i64 0] 57)).alloc (.cells #[.slice a n c, .int .i64 0, .int .i64 0] 57)).alloc (.cells #[.slice none 0 0, .slice none 0 0, .slice none 0 0, .slice none 0 0] 78)) := by
  have hs1 := k1.size
  have hs2 := k2.size
  obtain ⟨W1, hW1⟩ : ∃ W1, W1 = w2.alloc (.cells #[.slice a n c, .int .i64 0, .int .i64 0] 57) := ⟨_, rfl⟩
  obtain ⟨W2, hW2⟩ : ∃ W2, W2 = W1.alloc (.cells #[.slice a n c, .int .i64 0, .int .i64 0] 57) := ⟨_, rfl⟩
  obtain ⟨W3, hW3⟩ : ∃ W3, W3 = W2.alloc (.cells #[.slice none 0 0, .slice none 0 0, .slice none 0 0, .slice none 0 0] 78) := ⟨_, rfl⟩
  rw [← hW1, ← hW2, ← hW3]
  have z1 : W1.heap.size = w2.heap.size + 1 := by rw [hW1]; exact size_alloc _ _
  have z2 : W2.heap.size = w2.heap.size + 2 := by rw [hW2, size_alloc, z1]
  have z3 : W3.heap.size = w2.heap.size + 3 := by rw [hW3, size_alloc, z2]
  have K1 : Kept No w2 W1 := by rw [hW1]; exact (Kept.refl No w2).alloc _
  have K2 : Kept No W1 W2 := by rw [hW2]; exact (Kept.refl No W1).alloc _
  have K3 : Kept No W2 W3 := by rw [hW3]; exact (Kept.refl No W2).alloc _
  have K23 : Kept No w2 W3 := (K1.trans K2 (fun _ h => h.elim)).trans K3 (fun _ h => h.elim)
  have ob1 : W1.heap[w2.heap.size]? = some (.cells #[.slice a n c, .int .i64 0, .int .i64 0] 57 (0, 0)) := by rw [hW1]; exact heap_alloc_new _ _
  have ob2 : W2.heap[w2.heap.size + 1]? = some (.cells #[.slice a n c, .int .i64 0, .int .i64 0] 57 (0, 0)) := by rw [← z1, hW2]; exact heap_alloc_new _ _
  have kb : Kept No w W3 := ((Kept.of_below (F := No) k1).trans (Kept.of_below (F := No) k2) (fun _ h => h.elim)).trans K23 (fun _ h => h.elim)
  have hb3 := hb.kept kb (fun _ _ h => h)
  have hsp : Spf W3 (fun k => k = w2.heap.size + 2) (w2.heap.size + 2) [] [] := by rw [← z2, hW3]; exact spf_new W2
  refine ⟨_, _, (fun k => k = w2.heap.size ∨ k < w.heap.size), (fun k => k = w2.heap.size + 1 ∨ k < w.heap.size), _,
    h1.kept ((Kept.of_below (F := No) k2).trans K23 (fun _ h => h.elim)) (fun _ _ h => h), h2.kept K23 (fun _ _ h => h),
    ⟨a, n, c, b0, 0, ⟨(K2.trans K3 (fun _ h => h.elim)).at' ob1 (fun h => h), hb3.mono (fun k e => ⟨.inr e, by show k ≠ w2.heap.size; omega⟩), Nat.zero_le _, .inl rfl⟩, rfl, hn⟩,
    ⟨a, n, c, b0, 0, ⟨K3.at' ob2 (fun h => h), hb3.mono (fun k e => ⟨.inr e, by show k ≠ w2.heap.size + 1; omega⟩), Nat.zero_le _, .inl rfl⟩, rfl, hn⟩,
    hsp, ?_, ?_, ?_, ?_, ?_, ?_, ?_, ?_, ?_, ?_, ?_, ?_, ?_, ?_, ?_, ?_, ?_, ?_, kb.below0, by simp, by simp, ?_, ?_⟩
  all_goals first
    | (intro e he; cases he; done)
    | (intro k e; simp only at e ⊢; omega)
    | (intro k e; simp only at e; omega)
    | (intro k e; omega)
    | (simp only; omega)

end Go.Proofs.Ytakdfpenpodplaa
