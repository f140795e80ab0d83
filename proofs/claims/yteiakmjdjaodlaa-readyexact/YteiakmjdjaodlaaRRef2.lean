/-
  The document's New, Put, Remove.
-/
import Derived.Test.YteiakmjdjaodlaaRRef1
namespace Go.Proofs.Yteiakmjdjaodlaa
open Go.Shelf Go.RowKit Go.Lib Go.Sort
set_option linter.unusedVariables false
set_option maxRecDepth 100000

def rv (N : Nat) (v : Value) (t : Nat) : Value := .agg #[.int .i64 N, v, .int .i64 t]
theorem set3' {w : World} {q : Nat} {a b c : Value} {e : TypeId} (h : w.heap[q]? = some (.cells #[a, b, c] e)) (x y z : Value) : (((w.setCell ⟨q, 0, none⟩ x).setCell ⟨q, 1, none⟩ y).setCell ⟨q, 2, none⟩ z).heap[q]? = some (.cells #[x, y, z] e) := by
  rw [heap_setCell_eq (heap_setCell_eq (heap_setCell_eq h _) _) _]
  rfl
theorem ld42 {w : World} {q : Nat} {a b c : Value} (h : w.heap[q]? = some (.cells #[a, b, c] 42)) : (loadVar 42 ⟨q, 0, none⟩).run Try.prog w = .ok (.agg #[a, b, c]) w :=
  run_loadVar_row (P := Try.prog) w q 42 42 _ (0, 0) _ h Try.underlying42 rfl (by kernel_rfl)
theorem set3_keptF {q : Nat} (w : World) (x y z : Value) : Kept (fun k => k = q) w (((w.setCell ⟨q, 0, none⟩ x).setCell ⟨q, 1, none⟩ y).setCell ⟨q, 2, none⟩ z) :=
  Kept.setCell (F := fun k => k = q) (p := ⟨q, 2, none⟩) (Kept.setCell (F := fun k => k = q) (p := ⟨q, 1, none⟩) (Kept.setCell (F := fun k => k = q) (p := ⟨q, 0, none⟩) (Kept.refl _ w) (.inl rfl) _) (.inl rfl) _) (.inl rfl) _
theorem heap_two (w : World) (A B : Obj) : ((w.alloc A).alloc B).heap[w.heap.size]? = some A ∧ ((w.alloc A).alloc B).heap[w.heap.size + 1]? = some B := by
  have h1 := heap_last w A
  have h2 := heap_last (w.alloc A) B
  rw [World.size_alloc] at h2
  exact ⟨(Below.heap_alloc _ _ _ (heap_lt h1)).trans h1, h2⟩

theorem rnew_no (x : Int) (hx : x < 0 ∨ x > 65535) (w : World) : Calls Try.prog 16 #[.int .i64 x] w fun ex w' => ex = .returned (.tuple #[rv 0 (.slice none 0 0) 0, .bool false]) ∧ Below w.heap.size w w' := by
  have Q1 : Hid ((w.alloc (.cells #[.int .i64 0, .slice none 0 0, .int .i64 0] 42)).heap[w.heap.size]? = some (.cells #[.int .i64 0, .slice none 0 0, .int .i64 0] 42)) := heap_last _ _
  have K1 : Hid (Kept No w (w.alloc (.cells #[.int .i64 0, .slice none 0 0, .int .i64 0] 42))) := (Kept.refl No w).alloc _
  have f0 := fz_row Q1.out
  have q0 := cell_of_row (k := 0) (v := .int .i64 0) Q1.out rfl
  have q1 := cell_of_row (k := 1) (v := .slice none 0 0) Q1.out rfl
  have q2 := cell_of_row (k := 2) (v := .int .i64 0) Q1.out rfl
  unfold rv
  by_cases h0 : x < 0
  · clear hx
    go_enter Try.func16, Try.ntmps16
    go_upto_region 1 with fail
    generalize w.alloc (.cells #[.int .i64 0, .slice none 0 0, .int .i64 0] 42) = w1 at *
    go_wp2
    have hld := ld42 (set3' Q1.out (.int .i64 0) (.slice none 0 0) (.int .i64 0))
    refine bodyPost_ret (v := .tuple #[.agg #[.int .i64 0, .slice none 0 0, .int .i64 0], .bool false]) ?_ rfl ⟨rfl, (set3_kept K1.out (Nat.le_refl _) _ _ _).below0⟩
    rw [results_cell_tmp rfl]
    simp [asAddr, Result.andThen, hld]
  · have h1 : x > 65535 := by omega
    clear hx
    go_enter Try.func16, Try.ntmps16
    go_upto_region 1 with fail
    generalize w.alloc (.cells #[.int .i64 0, .slice none 0 0, .int .i64 0] 42) = w1 at *
    go_wp2
    have hld := ld42 (set3' Q1.out (.int .i64 0) (.slice none 0 0) (.int .i64 0))
    refine bodyPost_ret (v := .tuple #[.agg #[.int .i64 0, .slice none 0 0, .int .i64 0], .bool false]) ?_ rfl ⟨rfl, (set3_kept K1.out (Nat.le_refl _) _ _ _).below0⟩
    rw [results_cell_tmp rfl]
    simp [asAddr, Result.andThen, hld]
theorem rnew_yes (n : Nat) (hn : n ≤ 65535) (w : World) : Calls Try.prog 16 #[.int .i64 n] w fun ex w' => ex = .returned (.tuple #[rv n (.slice none 0 0) 0, .bool true]) ∧ Below w.heap.size w w' := by
  have Q1 : Hid ((w.alloc (.cells #[.int .i64 0, .slice none 0 0, .int .i64 0] 42)).heap[w.heap.size]? = some (.cells #[.int .i64 0, .slice none 0 0, .int .i64 0] 42)) := heap_last _ _
  have K1 : Hid (Kept No w (w.alloc (.cells #[.int .i64 0, .slice none 0 0, .int .i64 0] 42))) := (Kept.refl No w).alloc _
  have f0 := fz_row Q1.out
  have q0 := cell_of_row (k := 0) (v := .int .i64 0) Q1.out rfl
  have q1 := cell_of_row (k := 1) (v := .slice none 0 0) Q1.out rfl
  have q2 := cell_of_row (k := 2) (v := .int .i64 0) Q1.out rfl
  unfold rv
  have h0 : ¬ ((n : Int) < 0) := by omega
  have h1 : ¬ ((n : Int) > 65535) := by omega
  go_enter Try.func16, Try.ntmps16
  go_upto_region 1 with fail
  generalize w.alloc (.cells #[.int .i64 0, .slice none 0 0, .int .i64 0] 42) = w1 at *
  go_wp2
  have hld := ld42 (set3' Q1.out (.int .i64 n) (.slice none 0 0) (.int .i64 0))
  refine bodyPost_ret (v := .tuple #[.agg #[.int .i64 n, .slice none 0 0, .int .i64 0], .bool true]) ?_ rfl ⟨rfl, (set3_kept K1.out (Nat.le_refl _) _ _ _).below0⟩
  rw [results_cell_tmp rfl]
  simp [asAddr, Result.andThen, hld]

section
variable {W : World} {N t : Nat} {v : Value} {T : List En} {n : Nat}
set_option maxHeartbeats 1000000 in
theorem rput_no (i p : Int) (hi : i < 1 ∨ (N : Int) < i) (hv : W.ownsRow 0 77 3 v n (rcL T)) : Calls Try.prog 27 #[rv N v t, .int .i64 i, .int .i64 p] W fun ex w' => ex = .returned (.tuple #[rv N v t, .bool false]) ∧ Below W.heap.size W w' := by
  obtain ⟨_, a, c, rfl, _⟩ := owns_ref hv
  obtain ⟨QA, QB⟩ := heap_two W (.cells #[.int .i64 N, .slice a n c, .int .i64 t] 42) (.cells #[.int .i64 0, .slice none 0 0, .int .i64 0] 42)
  have K1 : Hid (Kept No W ((W.alloc (.cells #[.int .i64 N, .slice a n c, .int .i64 t] 42)).alloc (.cells #[.int .i64 0, .slice none 0 0, .int .i64 0] 42))) := ((Kept.refl No W).alloc _).alloc _
  have q0 := cell_of_row (k := 0) (v := .int .i64 N) QA rfl
  have q1 := cell_of_row (k := 1) (v := .slice a n c) QA rfl
  have q2 := cell_of_row (k := 2) (v := .int .i64 t) QA rfl
  have f0 := fz_row QB
  have p0 := cell_of_row (k := 0) (v := .int .i64 0) QB rfl
  have p1 := cell_of_row (k := 1) (v := .slice none 0 0) QB rfl
  have p2 := cell_of_row (k := 2) (v := .int .i64 0) QB rfl
  have HB : Hid (((W.alloc (.cells #[.int .i64 N, .slice a n c, .int .i64 t] 42)).alloc (.cells #[.int .i64 0, .slice none 0 0, .int .i64 0] 42)).heap[W.heap.size + 1]? = some (.cells #[.int .i64 0, .slice none 0 0, .int .i64 0] 42)) := QB
  unfold rv
  clear hv QA QB
  by_cases h0 : i < 1
  · clear hi
    go_enter Try.func27, Try.ntmps27
    go_upto_region 1 with fail
    generalize (W.alloc (.cells #[.int .i64 N, .slice a n c, .int .i64 t] 42)).alloc (.cells #[.int .i64 0, .slice none 0 0, .int .i64 0] 42) = w1 at *
    go_wp2
    have hld := ld42 (set3' HB.out (.int .i64 N) (.slice a n c) (.int .i64 t))
    refine bodyPost_ret (v := .tuple #[.agg #[.int .i64 N, .slice a n c, .int .i64 t], .bool false]) ?_ rfl ⟨rfl, (set3_kept K1.out (Nat.le_succ _) _ _ _).below0⟩
    rw [results_cell_tmp rfl]
    simp [asAddr, Result.andThen, hld]
  · have h1 : i > (N : Int) := by omega
    clear hi
    go_enter Try.func27, Try.ntmps27
    go_upto_region 1 with fail
    generalize (W.alloc (.cells #[.int .i64 N, .slice a n c, .int .i64 t] 42)).alloc (.cells #[.int .i64 0, .slice none 0 0, .int .i64 0] 42) = w1 at *
    go_wp2
    have hld := ld42 (set3' HB.out (.int .i64 N) (.slice a n c) (.int .i64 t))
    refine bodyPost_ret (v := .tuple #[.agg #[.int .i64 N, .slice a n c, .int .i64 t], .bool false]) ?_ rfl ⟨rfl, (set3_kept K1.out (Nat.le_succ _) _ _ _).below0⟩
    rw [results_cell_tmp rfl]
    simp [asAddr, Result.andThen, hld]
theorem has_len (i : Int) (T : List En) : (((T.length : Nat) : Int) != (((outE i T).length : Nat) : Int)) = hasE i T := by
  cases h : hasE i T with
  | false => rw [outE_same (hasE_no h)]; simp
  | true =>
    obtain ⟨x, hx, hi⟩ := hasE_yes h
    have : (outE i T).length < T.length := by
      unfold outE
      rw [List.length_filter_lt_length_iff_exists]
      exact ⟨x, hx, by simp [hi]⟩
    simp
    omega
set_option maxHeartbeats 2000000 in
theorem rremove_any (i : Int) (hv : W.ownsRow 0 77 3 v n (rcL T)) (hn : n ≤ 1000000) : Calls Try.prog 28 #[rv N v t, .int .i64 i] W fun ex w' => ∃ u, ex = .returned (.tuple #[rv N u t, .bool (hasE i T)]) ∧ w'.ownsRow W.heap.size 77 3 u (outE i T).length (rcL (outE i T)) ∧ Below W.heap.size W w' := by
  obtain ⟨hl, a, c, rfl, hc1, hc2, _⟩ := owns_ref hv
  obtain ⟨QA, QB⟩ := heap_two W (.cells #[.int .i64 N, .slice a n c, .int .i64 t] 42) (.cells #[.int .i64 0, .slice none 0 0, .int .i64 0] 42)
  have K1 : Hid (Kept No W ((W.alloc (.cells #[.int .i64 N, .slice a n c, .int .i64 t] 42)).alloc (.cells #[.int .i64 0, .slice none 0 0, .int .i64 0] 42))) := ((Kept.refl No W).alloc _).alloc _
  have q1 := cell_of_row (k := 1) (v := .slice a n c) QA rfl
  have HA : Hid (((W.alloc (.cells #[.int .i64 N, .slice a n c, .int .i64 t] 42)).alloc (.cells #[.int .i64 0, .slice none 0 0, .int .i64 0] 42)).heap[W.heap.size]? = some (.cells #[.int .i64 N, .slice a n c, .int .i64 t] 42)) := QA
  have HB : Hid (((W.alloc (.cells #[.int .i64 N, .slice a n c, .int .i64 t] 42)).alloc (.cells #[.int .i64 0, .slice none 0 0, .int .i64 0] 42)).heap[W.heap.size + 1]? = some (.cells #[.int .i64 0, .slice none 0 0, .int .i64 0] 42)) := QB
  have cW := without_any T (.slice a n c) n _ i (((hv.alloc (.cells #[.int .i64 N, .slice a n c, .int .i64 t] 42))).alloc (.cells #[.int .i64 0, .slice none 0 0, .int .i64 0] 42)) hn
  rw [← has_len, hl]
  unfold rv
  have HLE : Hid ((outE i T).length ≤ n) := (by have := outE_le i T; rw [hl] at this; exact this)
  generalize hm : (outE i T).length = m at *
  have HM : Hid ((outE i T).length = m) := hm
  clear hv QA QB hm hl
  go_enter Try.func28, Try.ntmps28
  go_upto_region 1 with fail
  generalize (W.alloc (.cells #[.int .i64 N, .slice a n c, .int .i64 t] 42)).alloc (.cells #[.int .i64 0, .slice none 0 0, .int .i64 0] 42) = w1 at *
  go_upto_region 2 with (go_at_call 38; refine cW.mono ?_; rintro ex w2 ⟨u, rfl, own2, hb2⟩)
  obtain ⟨a2, c2, hu, hcc1, hcc2⟩ : ∃ a c, u = .slice a m c ∧ m ≤ c ∧ c ≤ 9223372036854775807 := by
    obtain ⟨_, a, c, e, h1, h2, _⟩ := owns_ref own2
    exact ⟨a, c, e, h1, h2⟩
  subst hu
  have HR2 : Hid (w2.ownsRow W.heap.size 77 3 (.slice a2 m c2) m (rcL (outE i T)) ∧ Kept No W w2) := ⟨owns_base own2 K1.out.size, K1.out.trans (Kept.of_below (F := No) hb2) (fun k hk => .inl hk)⟩
  have HA2 : w2.heap[W.heap.size]? = some (.cells #[.int .i64 N, .slice a n c, .int .i64 t] 42) := (Kept.of_below (F := No) hb2).at' HA.out (fun h => h)
  have HB2 : w2.heap[W.heap.size + 1]? = some (.cells #[.int .i64 0, .slice none 0 0, .int .i64 0] 42) := (Kept.of_below (F := No) hb2).at' HB.out (fun h => h)
  have own2c : ∀ g, (Value.slice a2 m c2).ownBlock = some g → w1.heap.size ≤ g := fun g e => (own2.lt g e).1
  have hlt1 : W.heap.size + 1 < w1.heap.size := heap_lt HB.out
  clear cW own2 hb2 q1 HA HB
  -- the store into the box, then the answer
  have z1 := cell_of_row (k := 1) (v := .slice a n c) HA2 rfl
  have zf := fz_row HA2
  have HA3 : Hid ((w2.setCell ⟨W.heap.size, 1, none⟩ (.slice a2 m c2)).heap[W.heap.size]? = some (.cells #[.int .i64 N, .slice a2 m c2, .int .i64 t] 42)) := (by
    have := heap_setCell_eq HA2 (.slice a2 m c2) (i := 1)
    exact this)
  have HB3 : Hid ((w2.setCell ⟨W.heap.size, 1, none⟩ (.slice a2 m c2)).heap[W.heap.size + 1]? = some (.cells #[.int .i64 0, .slice none 0 0, .int .i64 0] 42)) := (Below.heap_setCell _ _ _ _ (by show W.heap.size + 1 ≠ W.heap.size; omega)).trans HB2
  have K3 : Hid (Kept No W (w2.setCell ⟨W.heap.size, 1, none⟩ (.slice a2 m c2))) := Kept.setCell (p := ⟨W.heap.size, 1, none⟩) HR2.out.2 (.inr (Nat.le_refl _)) _
  have hrow3 : Hid ((w2.setCell ⟨W.heap.size, 1, none⟩ (.slice a2 m c2)).ownsRow W.heap.size 77 3 (.slice a2 m c2) m (rcL (outE i T))) := (Kept.setCell (F := fun k => k = W.heap.size) (p := ⟨W.heap.size, 1, none⟩) (Kept.refl _ w2) (.inl rfl) _).owns HR2.out.1 (fun g hg e => by
    have := own2c g hg; omega)
  go_upto_region 4 with fail
  generalize w2.setCell ⟨W.heap.size, 1, none⟩ (.slice a2 m c2) = w3 at *
  have HR3 : Hid (w3.ownsRow W.heap.size 77 3 (.slice a2 m c2) m (rcL (outE i T))) := hrow3.out
  have y0 := cell_of_row (k := 0) (v := .int .i64 N) HA3.out rfl
  have y1 := cell_of_row (k := 1) (v := .slice a2 m c2) HA3.out rfl
  have y2 := cell_of_row (k := 2) (v := .int .i64 t) HA3.out rfl
  have yf := fz_row HB3.out
  have p0 := cell_of_row (k := 0) (v := .int .i64 0) HB3.out rfl
  have p1 := cell_of_row (k := 1) (v := .slice none 0 0) HB3.out rfl
  have p2 := cell_of_row (k := 2) (v := .int .i64 0) HB3.out rfl
  clear z1 zf HA2 HB2
  go_wp2
  have hld := ld42 (set3' HB3.out (.int .i64 N) (.slice a2 m c2) (.int .i64 t))
  refine bodyPost_ret (v := .tuple #[.agg #[.int .i64 N, .slice a2 m c2, .int .i64 t], .bool ((n : Int) != (m : Int))]) ?_ rfl ⟨_, rfl, ?_, (set3_kept K3.out (Nat.le_succ _) _ _ _).below0⟩
  · rw [results_cell_tmp rfl]
    simp [asAddr, Result.andThen, hld]
  · exact (set3_keptF (q := W.heap.size + 1) w3 _ _ _).owns HR3.out (fun g hg e => by have := own2c g hg; omega)
end
end Go.Proofs.Yteiakmjdjaodlaa
