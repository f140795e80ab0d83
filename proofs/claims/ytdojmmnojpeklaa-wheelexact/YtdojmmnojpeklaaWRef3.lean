/-
  The document's New, When, Next.
-/
import Derived.Test.YtdojmmnojpeklaaWRef2
import Derived.Laws.Rows
import Derived.Laws.ResultCell
namespace Go.Proofs.Ytdojmmnojpeklaa
open Go.RowKit
set_option linter.unusedVariables false
set_option maxRecDepth 100000

def mv (at' : Nat) (v : Value) : Value := .agg #[.int .i64 at', v]
theorem set2' {w : World} {q : Nat} {a b : Value} {e : TypeId} (h : w.heap[q]? = some (.cells #[a, b] e)) (x y : Value) : ((w.setCell ⟨q, 0, none⟩ x).setCell ⟨q, 1, none⟩ y).heap[q]? = some (.cells #[x, y] e) := by
  rw [heap_setCell_eq (heap_setCell_eq h _) _]
  rfl
theorem set2_keptF {q : Nat} (w : World) (x y : Value) : Kept (fun k => k = q) w ((w.setCell ⟨q, 0, none⟩ x).setCell ⟨q, 1, none⟩ y) :=
  Kept.setCell (F := fun k => k = q) (p := ⟨q, 1, none⟩) (Kept.setCell (F := fun k => k = q) (p := ⟨q, 0, none⟩) (Kept.refl _ w) (.inl rfl) _) (.inl rfl) _
theorem set2_kept {F : Nat → Prop} {w0 w : World} {q : Nat} (k : Kept F w0 w) (hq : w0.heap.size ≤ q) (x y : Value) : Kept F w0 ((w.setCell ⟨q, 0, none⟩ x).setCell ⟨q, 1, none⟩ y) :=
  Kept.setCell (p := ⟨q, 1, none⟩) (Kept.setCell (p := ⟨q, 0, none⟩) k (.inr hq) _) (.inr hq) _
theorem ld47 {w : World} {q : Nat} {a b : Value} (h : w.heap[q]? = some (.cells #[a, b] 47)) : (loadVar 47 ⟨q, 0, none⟩).run Try.prog w = .ok (.agg #[a, b]) w :=
  run_loadVar_row (P := Try.prog) w q 47 47 _ (0, 0) _ h Try.underlying47 rfl (by kernel_rfl)
theorem heap_two (w : World) (A B : Obj) : ((w.alloc A).alloc B).heap[w.heap.size]? = some A ∧ ((w.alloc A).alloc B).heap[w.heap.size + 1]? = some B := by
  have h1 := heap_last w A
  have h2 := heap_last (w.alloc A) B
  rw [World.size_alloc] at h2
  exact ⟨(Below.heap_alloc _ _ _ (heap_lt h1)).trans h1, h2⟩
theorem rnew_no (x : Int) (hx : x < 0 ∨ x > 1099511627776) (w : World) : Calls Try.prog 19 #[.int .i64 x] w fun ex w' => ex = .returned (.tuple #[mv 0 (.slice none 0 0), .int .i64 2]) ∧ Below w.heap.size w w' := by
  have Q1 : Hid ((w.alloc (.cells #[.int .i64 0, .slice none 0 0] 47)).heap[w.heap.size]? = some (.cells #[.int .i64 0, .slice none 0 0] 47)) := heap_last _ _
  have K1 : Hid (Kept No w (w.alloc (.cells #[.int .i64 0, .slice none 0 0] 47))) := (Kept.refl No w).alloc _
  have f0 := fz_row Q1.out
  have q0 := cell_of_row (k := 0) (v := .int .i64 0) Q1.out rfl
  have q1 := cell_of_row (k := 1) (v := .slice none 0 0) Q1.out rfl
  unfold mv
  by_cases h0 : x < 0
  · clear hx
    go_enter Try.func19, Try.ntmps19
    go_upto_region 1 with fail
    generalize w.alloc (.cells #[.int .i64 0, .slice none 0 0] 47) = w1 at *
    go_wp2
    have hld := ld47 (set2' Q1.out (.int .i64 0) (.slice none 0 0))
    refine bodyPost_ret (v := .tuple #[.agg #[.int .i64 0, .slice none 0 0], .int .i64 2]) ?_ rfl ⟨rfl, (set2_kept K1.out (Nat.le_refl _) _ _).below0⟩
    rw [results_cell_tmp rfl]
    simp [asAddr, Result.andThen, hld]
  · have h1 : x > 1099511627776 := by omega
    clear hx
    go_enter Try.func19, Try.ntmps19
    go_upto_region 1 with fail
    generalize w.alloc (.cells #[.int .i64 0, .slice none 0 0] 47) = w1 at *
    go_wp2
    have hld := ld47 (set2' Q1.out (.int .i64 0) (.slice none 0 0))
    refine bodyPost_ret (v := .tuple #[.agg #[.int .i64 0, .slice none 0 0], .int .i64 2]) ?_ rfl ⟨rfl, (set2_kept K1.out (Nat.le_refl _) _ _).below0⟩
    rw [results_cell_tmp rfl]
    simp [asAddr, Result.andThen, hld]
theorem rnew_yes (n : Nat) (hn : n ≤ 1099511627776) (w : World) : Calls Try.prog 19 #[.int .i64 n] w fun ex w' => ex = .returned (.tuple #[mv n (.slice none 0 0), .int .i64 0]) ∧ Below w.heap.size w w' := by
  have Q1 : Hid ((w.alloc (.cells #[.int .i64 0, .slice none 0 0] 47)).heap[w.heap.size]? = some (.cells #[.int .i64 0, .slice none 0 0] 47)) := heap_last _ _
  have K1 : Hid (Kept No w (w.alloc (.cells #[.int .i64 0, .slice none 0 0] 47))) := (Kept.refl No w).alloc _
  have f0 := fz_row Q1.out
  have q0 := cell_of_row (k := 0) (v := .int .i64 0) Q1.out rfl
  have q1 := cell_of_row (k := 1) (v := .slice none 0 0) Q1.out rfl
  unfold mv
  have h0 : ¬ ((n : Int) < 0) := by omega
  have h1 : ¬ ((n : Int) > 1099511627776) := by omega
  go_enter Try.func19, Try.ntmps19
  go_upto_region 1 with fail
  generalize w.alloc (.cells #[.int .i64 0, .slice none 0 0] 47) = w1 at *
  go_wp2
  have hld := ld47 (set2' Q1.out (.int .i64 n) (.slice none 0 0))
  refine bodyPost_ret (v := .tuple #[.agg #[.int .i64 n, .slice none 0 0], .int .i64 0]) ?_ rfl ⟨rfl, (set2_kept K1.out (Nat.le_refl _) _ _).below0⟩
  rw [results_cell_tmp rfl]
  simp [asAddr, Result.andThen, hld]

section
variable {W : World} {N : Nat} {v : Value} {L : List Fi} {n : Nat}
theorem rnext_any (hv : W.ownsRow 0 32 2 v n (fcL L)) : Calls Try.prog 33 #[mv N v] W fun ex w' => ex = .returned (.tuple #[.int .i64 ((L.head?.map Fi.t).getD 0), .bool L.head?.isSome]) ∧ Below W.heap.size W w' := by
  obtain ⟨hl, a, c, rfl, hc1, hc2, h3⟩ := owns_fis hv
  have Q1 := heap_last W (.cells #[.int .i64 N, .slice a n c] 47)
  have K1 : Hid (Below W.heap.size W (W.alloc (.cells #[.int .i64 N, .slice a n c] 47))) := (Below.refl _ W).alloc (Nat.le_refl _) _
  have q1 := cell_of_row (k := 1) (v := .slice a n c) Q1 rfl
  unfold mv
  cases L with
  | nil =>
    have hn0 : n = 0 := hl.symm
    subst hn0
    clear hv h3 hl Q1
    rw [show (([] : List Fi).head?.map Fi.t).getD 0 = 0 from rfl, show ([] : List Fi).head?.isSome = false from rfl]
    go_enter Try.func33, Try.ntmps33
    go_upto_region 1 with fail
    generalize W.alloc (.cells #[.int .i64 N, .slice a 0 c] 47) = w1 at *
    go_wp2
    go_ret2
    exact ⟨rfl, K1.out⟩
  | cons x r =>
    obtain ⟨g, rfl, r0', _⟩ := h3 0 x rfl
    have r0 := ((Kept.refl No W).alloc (.cells #[.int .i64 N, .slice (some ⟨g, 0, none⟩) n c] 47)).cell r0' (fun h => h)
    rw [Nat.zero_mul] at r0
    have hnp : 0 < n := by rw [← hl, List.length_cons]; omega
    have hnz : ¬ ((n : Int) = 0) := by omega
    rw [show ((x :: r).head?.map Fi.t).getD 0 = x.t from rfl, show (x :: r).head?.isSome = true from rfl]
    obtain ⟨xt, xi⟩ := x
    dsimp only at r0 ⊢
    clear hv h3 hl Q1 r0'
    go_enter Try.func33, Try.ntmps33
    go_upto_region 1 with fail
    generalize W.alloc (.cells #[.int .i64 N, .slice (some ⟨g, 0, none⟩) n c] 47) = w1 at *
    go_wp2
    go_ret2
    exact ⟨rfl, K1.out⟩
theorem rwhen_any (i : Int) (hv : W.ownsRow 0 32 2 v n (fcL L)) : Calls Try.prog 32 #[mv N v, .int .i64 i] W fun ex w' => ex = .returned (.tuple #[.int .i64 ((tickOf L i).getD 0), .bool (tickOf L i).isSome]) ∧ Below W.heap.size W w' := by
  obtain ⟨hl, a, c, rfl, hc1, hc2, h3⟩ := owns_fis hv
  have Q1 : Hid ((W.alloc (.cells #[.int .i64 N, .slice a n c] 47)).heap[W.heap.size]? = some (.cells #[.int .i64 N, .slice a n c] 47)) := heap_last _ _
  have K1 : Hid (Below W.heap.size W (W.alloc (.cells #[.int .i64 N, .slice a n c] 47))) := (Below.refl _ W).alloc (Nat.le_refl _) _
  have q1 := cell_of_row (k := 1) (v := .slice a n c) Q1.out rfl
  have HL : Hid (L.length = n) := hl
  have H3 : Hid (∀ k x, L[k]? = some x → ∃ g, a = some ⟨g, 0, none⟩ ∧ (W.alloc (.cells #[.int .i64 N, .slice a n c] 47)).cell? ⟨g, k * 2, none⟩ = some (.int .i64 x.t) ∧ (W.alloc (.cells #[.int .i64 N, .slice a n c] 47)).cell? ⟨g, k * 2 + 1, none⟩ = some (.int .i64 x.i)) := (fun k x hx => by
    obtain ⟨g, e, h4, h5⟩ := h3 k x hx
    have kk := (Kept.refl No W).alloc (.cells #[.int .i64 N, .slice a n c] 47)
    exact ⟨g, e, kk.cell h4 (fun h => h), kk.cell h5 (fun h => h)⟩)
  unfold mv
  clear hv h3 hl
  go_enter Try.func32, Try.ntmps32
  go_wp2
  generalize W.alloc (.cells #[.int .i64 N, .slice a n c] 47) = w1 at *
  go_loopw [6] (fun d wr => ∃ j : Nat, j ≤ n ∧ d = .int .i64 j ∧ (∀ m x, m < j → L[m]? = some x → x.i ≠ i) ∧ wr = w1) (fun d _ => n - (intOf d).toNat)
  case atStart => exact ⟨0, Nat.zero_le _, rfl, (fun m x hm => by omega), rfl⟩
  case round =>
    obtain ⟨j, hj, rfl, hno, hwr⟩ := hrel
    obtain rfl := hwr.symm
    have HNO : Hid (∀ m x, m < j → L[m]? = some x → x.i ≠ i) := hno
    clear hno hwr
    by_cases hlt : j < n
    · obtain ⟨x, hx⟩ : ∃ x, L[j]? = some x := ⟨_, List.getElem?_eq_getElem (by rw [HL.out]; exact hlt)⟩
      obtain ⟨g, rfl, r0, r1⟩ := H3.out j x hx
      have HX : Hid (L[j]? = some x) := hx
      clear hx
      obtain ⟨xt, xi⟩ := x
      dsimp only at r0 r1
      by_cases hxi : xi = i
      · have HF : Hid (tickOf L i = some xt) := (show _ = _ by
          unfold tickOf
          have hjl : j < L.length := by rw [HL.out]; exact hlt
          have : L.find? (fun y => y.i == i) = some ⟨xt, xi⟩ := by
            rw [List.find?_eq_some_iff_getElem]
            refine ⟨by simp [hxi], j, hjl, by have := HX.out; rw [List.getElem?_eq_getElem hjl] at this; injection this, fun m hm => ?_⟩
            have := HNO.out m _ hm (List.getElem?_eq_getElem (by omega))
            simpa using this
          rw [this]; rfl)
        go_wp2
        go_ret2
        exact ⟨by rw [HF.out]; rfl, K1.out⟩
      · go_wp2
        go_roundw
        case rel =>
          refine ⟨j + 1, by omega, by go_num, fun m y hm hy => ?_, by first | rfl | trivial⟩
          by_cases e : m = j
          · subst e; rw [HX.out] at hy; injection hy with hy; subst hy; exact hxi
          · exact HNO.out m y (by omega) hy
        case measure => simp [intOf]; omega
    · have hjn : j = n := by omega
      subst hjn
      have HF : Hid (tickOf L i = none) := (show _ = _ by
        unfold tickOf
        have : L.find? (fun y => y.i == i) = none := by
          rw [List.find?_eq_none]
          intro x hx
          obtain ⟨m, hm, e⟩ := List.getElem_of_mem hx
          have := HNO.out m x (by rw [← HL.out]; exact hm) (by rw [List.getElem?_eq_getElem hm, e])
          simpa using this
        rw [this]; rfl)
      go_wp2
      go_ret2
      exact ⟨by rw [HF.out]; rfl, K1.out⟩
end
end Go.Proofs.Ytdojmmnojpeklaa
