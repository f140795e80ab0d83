/-
  compare, count, top, lay, firstBelow.
-/
import Derived.Test.YteiakmjdjaodlaaRObj
import Derived.Shelf.SlSortCmp.InsertionK
import Derived.Laws.Rows
import Derived.Laws.ResultCell
namespace Go.Proofs.Yteiakmjdjaodlaa
open Go.RowKit Go.Shelf
set_option linter.unusedVariables false

theorem cmp_any (x y : Int) (w : World) : Calls Try.prog 41 #[.int .i64 x, .int .i64 y] w fun ex w' => ex = .returned (.int .i64 (cmp3 x y)) ∧ w' = w := by
  unfold cmp3
  by_cases h1 : x < y
  · rw [if_pos h1]
    go_enter Try.func41, Try.ntmps41
    go_wp2
    go_ret
    exact ⟨rfl, rfl⟩
  · rw [if_neg h1]
    by_cases h2 : x > y
    · rw [if_pos h2]
      go_enter Try.func41, Try.ntmps41
      go_wp2
      go_ret
      exact ⟨rfl, rfl⟩
    · rw [if_neg h2]
      go_enter Try.func41, Try.ntmps41
      go_wp2
      go_ret
      exact ⟨rfl, rfl⟩
theorem compare_any (x y : En) (W : World) : Calls Try.prog 35 #[x.v, y.v] W fun e w' => e = .returned (.int .i64 (cmpE x y)) ∧ ∃ q os', w' = Sort.grow (W.drewN q) os' := by
  have hcon := fun x y W' => cmp_any x y W'
  unfold cmpE En.v
  by_cases h : x.pr = y.pr
  · have h' : ¬ (x.pr ≠ y.pr) := fun e => e h
    rw [if_neg h']
    go_enter Try.func35, Try.ntmps35
    go_wp2_with (go_at_call 41; refine (hcon _ _ _).mono ?_; rintro e w' ⟨rfl, rfl⟩)
    go_ret
    exact ⟨rfl, 0, _, by rw [Sort.alloc_eq_grow, Sort.alloc_eq_grow, Sort.grow_grow]; rfl⟩
  · rw [if_pos h]
    go_enter Try.func35, Try.ntmps35
    go_wp2_with (go_at_call 41; refine (hcon _ _ _).mono ?_; rintro e w' ⟨rfl, rfl⟩)
    go_ret
    exact ⟨rfl, 0, _, by rw [Sort.alloc_eq_grow, Sort.alloc_eq_grow, Sort.grow_grow]; rfl⟩

section
variable {w : World} {b mb c nx mo : Nat} {v : Value} {H : List En} {M : Int → Option Int}
theorem count_any (h : Ol w b mb v H M c nx mo) : Calls Try.prog 20 #[.pointer (some ⟨b, 0, none⟩)] w fun ex w' => ex = .returned (.int .i64 H.length) ∧ w' = w := by
  have h0 := h.heap
  obtain ⟨a, cap, rfl, h1, h2⟩ := h.form
  clear h
  generalize H.length = n at *
  go_enter Try.func20, Try.ntmps20
  go_wp2
  go_ret
  exact ⟨rfl, rfl⟩
theorem heap_last (w : World) (o : Obj) : (w.alloc o).heap[w.heap.size]? = some o := (MapKept.heap_alloc w o).1
theorem cell_of_row {w : World} {g k : Nat} {cs : Array Value} {t : TypeId} {fr : Nat × Nat} {v : Value} (h : w.heap[g]? = some (.cells cs t fr)) (hv : cs[k]? = some v) : w.cell? ⟨g, k, none⟩ = some v := by
  simp [World.cell?, h, hv]
theorem fz_row {w : World} {g : Nat} {cs : Array Value} {t : TypeId} (h : w.heap[g]? = some (.cells cs t)) (k : Nat) : w.frozen? ⟨g, k, none⟩ = false := by simp [World.frozen?, h]
theorem set3 {w : World} {q : Nat} {a b c : Value} (h : w.heap[q]? = some (.cells #[a, b, c] 57)) (x y z : Value) : (((w.setCell ⟨q, 0, none⟩ x).setCell ⟨q, 1, none⟩ y).setCell ⟨q, 2, none⟩ z).heap[q]? = some (.cells #[x, y, z] 57) := by
  rw [heap_setCell_eq (heap_setCell_eq (heap_setCell_eq h _) _) _]
  rfl
theorem set3_kept {F : Nat → Prop} {w0 w : World} {q : Nat} (k : Kept F w0 w) (hq : w0.heap.size ≤ q) (x y z : Value) : Kept F w0 (((w.setCell ⟨q, 0, none⟩ x).setCell ⟨q, 1, none⟩ y).setCell ⟨q, 2, none⟩ z) :=
  Kept.setCell (p := ⟨q, 2, none⟩) (Kept.setCell (p := ⟨q, 1, none⟩) (Kept.setCell (p := ⟨q, 0, none⟩) k (.inr hq) _) (.inr hq) _) (.inr hq) _
theorem top_any (h : Ol w b mb v H M c nx mo) (hn : 0 < H.length) : Calls Try.prog 24 #[.pointer (some ⟨b, 0, none⟩)] w fun ex w' => ex = .returned (hd H 0).v ∧ Below w.heap.size w w' := by
  have W1 := h.below ((Below.refl _ w).alloc (Nat.le_refl _) (.cells #[.int .i64 0, .int .i64 0, .int .i64 0] 57))
  have h0 := W1.heap
  have HQ : Hid ((w.alloc (.cells #[.int .i64 0, .int .i64 0, .int .i64 0] 57)).heap[w.heap.size]? = some (.cells #[.int .i64 0, .int .i64 0, .int .i64 0] 57)) := heap_last _ _
  have f0 : ∀ k, (w.alloc (.cells #[.int .i64 0, .int .i64 0, .int .i64 0] 57)).frozen? ⟨w.heap.size, k, none⟩ = false := fz_row HQ.out
  have HK : Hid (Kept No w (w.alloc (.cells #[.int .i64 0, .int .i64 0, .int .i64 0] 57))) := (Kept.refl No w).alloc _
  obtain ⟨g, cap, rfl, h1, h2, r0, r1, r2, r3⟩ := W1.get hn
  have q0 := cell_of_row (k := 0) (v := .int .i64 0) HQ.out rfl
  have q1 := cell_of_row (k := 1) (v := .int .i64 0) HQ.out rfl
  have q2 := cell_of_row (k := 2) (v := .int .i64 0) HQ.out rfl
  clear h W1
  generalize H.length = n at *
  generalize hd H 0 = x at *
  simp only [Nat.zero_mul, Nat.zero_add] at r0 r1 r2
  unfold En.v
  go_enter Try.func24, Try.ntmps24
  go_upto_region 1 with fail
  generalize w.alloc (.cells #[.int .i64 0, .int .i64 0, .int .i64 0] 57) = w1 at *
  have HL : Hid (w.heap.size ≤ w.heap.size) := Nat.le_refl _
  go_wp2
  refine bodyPost_ret (results_cell_row rfl _ _ w.heap.size 57 _ (0, 0) _ rfl (set3 HQ.out _ _ _) Try.underlying57 rfl (by kernel_rfl)) rfl ?_
  exact ⟨rfl, (set3_kept HK.out (Nat.le_refl _) _ _ _).below0⟩
set_option maxHeartbeats 1000000 in
theorem lay_any (h : Ol w b mb v H M c nx mo) (k : Nat) (hk : k < H.length) (hH : H.length ≤ 1000000) (hc : c ≤ 1000000) (x : En) (hx : I6 x.id) : Calls Try.prog 42 #[.pointer (some ⟨b, 0, none⟩), .int .i64 k, x.v] w fun ex w' => ex = .returned (.tuple #[]) ∧ Ol w' b mb v (H.set k x) (updM M x.id (some (k : Int))) (if M x.id = none then c + 1 else c) nx mo ∧ Kept (Fp b mb v) w w' := by
  unfold En.v
  have W1 : Hid (Ol (w.alloc (.cells #[.int .i64 x.id, .int .i64 x.pr, .int .i64 x.pl] 57)) b mb v H M c nx mo) := h.below ((Below.refl _ w).alloc (Nat.le_refl _) _)
  have HQ : Hid ((w.alloc (.cells #[.int .i64 x.id, .int .i64 x.pr, .int .i64 x.pl] 57)).heap[w.heap.size]? = some (.cells #[.int .i64 x.id, .int .i64 x.pr, .int .i64 x.pl] 57)) := heap_last _ _
  have HK : Hid (Kept (Fp b mb v) w (w.alloc (.cells #[.int .i64 x.id, .int .i64 x.pr, .int .i64 x.pl] 57))) := (Kept.refl _ w).alloc _
  obtain ⟨g, cap, rfl, h1, h2, r0, r1, r2, r3⟩ := W1.out.get hk
  have h0 := W1.out.heap
  have q0 := cell_of_row (k := 0) (v := .int .i64 x.id) HQ.out rfl
  have q1 := cell_of_row (k := 1) (v := .int .i64 x.pr) HQ.out rfl
  have q2 := cell_of_row (k := 2) (v := .int .i64 x.pl) HQ.out rfl
  generalize hn : H.length = n at *
  have HN : Hid (H.length = n) := hn
  have HWG : Hid (w.heap.size ≠ g ∧ w.heap.size ≠ mb ∧ w.heap.size ≠ b) := (by
    have a1 := (h.row.lt g rfl).2
    have a2 := h.tm.lt
    have a3 := h.lt
    exact ⟨by omega, by omega, by omega⟩)
  clear h hn
  go_enter Try.func42, Try.ntmps42
  go_upto_region 1 with fail
  generalize w.alloc (.cells #[.int .i64 x.id, .int .i64 x.pr, .int .i64 x.pl] 57) = w1 at *
  go_region
  have W2 : Hid (Ol (put3 w1 g k x).drew b mb (.slice (some ⟨g, 0, none⟩) n cap) (H.set k x) M c nx mo) := (W1.out.setRow rfl (put3_kept w1 g k x) (by rw [List.length_set, HN.out]; have := W1.out.row; rw [HN.out] at this; exact owns_lay3 this (by rw [HN.out]; exact hk) x)).drewN 1
  have K2 : Hid (Kept (Fp b mb (.slice (some ⟨g, 0, none⟩) n cap)) w (put3 w1 g k x).drew) := (HK.out.trans (put3_kept w1 g k x) (fun j e => .inl (.inr (.inr (by rw [e]; rfl))))).drew
  have s0 : (put3 w1 g k x).drew.cell? ⟨w.heap.size, 0, none⟩ = some (.int .i64 x.id) := (put3_kept w1 g k x).drew.cell q0 HWG.out.1
  have hm := W2.out.map
  obtain ⟨w3, hrun, t3, k3⟩ := (W2.out.drewN 1).tm.put (by omega) hx (k : Int)
  change Sem.run _ _ (put3 w1 g k x).drew.drew = _ at hrun
  have T3 : Hid (Ol w3 b mb (.slice (some ⟨g, 0, none⟩) n cap) (H.set k x) (updM M x.id (some (k : Int))) (if M x.id = none then c + 1 else c) nx mo ∧ Kept (Fp b mb (.slice (some ⟨g, 0, none⟩) n cap)) w w3) := ⟨(W2.out.drewN 1).turn k3 t3, K2.out.drew.trans k3 (fun j e => .inl (.inr (.inl e)))⟩
  clear t3 k3
  unfold tmV at hrun
  clear r0 r1 r2 r3 q0 q1 q2 h0
  change Exit.then _ _ Exit.normal _ (put3 w1 g k x).drew
  generalize (put3 w1 g k x).drew = w2 at *
  go_wp2
  go_region
  clear hrun
  go_end0
  exact ⟨rfl, T3.out⟩
end

end Go.Proofs.Yteiakmjdjaodlaa
