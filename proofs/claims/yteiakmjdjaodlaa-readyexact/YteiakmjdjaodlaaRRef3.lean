/-
  The document's Put, Priority, First.
-/
import Derived.Test.YteiakmjdjaodlaaRRef2
namespace Go.Proofs.Yteiakmjdjaodlaa
open Go.Shelf Go.RowKit Go.Lib Go.Sort
set_option linter.unusedVariables false
set_option maxRecDepth 100000

section
variable {W : World} {N t : Nat} {v : Value} {T : List En} {n : Nat}
set_option maxHeartbeats 2000000 in
theorem rput_yes (i p : Int) (hi1 : 1 ≤ i) (hi2 : i ≤ N) (ht : t < 9223372036854775807) (hv : W.ownsRow 0 77 3 v n (rcL T)) (hn : n ≤ 1000000) : Calls Try.prog 27 #[rv N v t, .int .i64 i, .int .i64 p] W fun ex w' => ∃ u, ex = .returned (.tuple #[rv N u (t + 1), .bool true]) ∧ w'.ownsRow W.heap.size 77 3 u (outE i T ++ [(⟨i, p, t⟩ : En)]).length (rcL (outE i T ++ [(⟨i, p, t⟩ : En)])) ∧ Below W.heap.size W w' := by
  obtain ⟨hl, a, c, rfl, hc1, hc2, _⟩ := owns_ref hv
  obtain ⟨i0, hz, hz0, hz1, hz2⟩ := info_parts info77
  obtain ⟨QA, QB⟩ := heap_two W (.cells #[.int .i64 N, .slice a n c, .int .i64 t] 42) (.cells #[.int .i64 0, .slice none 0 0, .int .i64 0] 42)
  have K1 : Hid (Kept No W ((W.alloc (.cells #[.int .i64 N, .slice a n c, .int .i64 t] 42)).alloc (.cells #[.int .i64 0, .slice none 0 0, .int .i64 0] 42))) := ((Kept.refl No W).alloc _).alloc _
  have q0 := cell_of_row (k := 0) (v := .int .i64 N) QA rfl
  have q1 := cell_of_row (k := 1) (v := .slice a n c) QA rfl
  have HA : Hid (((W.alloc (.cells #[.int .i64 N, .slice a n c, .int .i64 t] 42)).alloc (.cells #[.int .i64 0, .slice none 0 0, .int .i64 0] 42)).heap[W.heap.size]? = some (.cells #[.int .i64 N, .slice a n c, .int .i64 t] 42)) := QA
  have HB : Hid (((W.alloc (.cells #[.int .i64 N, .slice a n c, .int .i64 t] 42)).alloc (.cells #[.int .i64 0, .slice none 0 0, .int .i64 0] 42)).heap[W.heap.size + 1]? = some (.cells #[.int .i64 0, .slice none 0 0, .int .i64 0] 42)) := QB
  have cW := without_any T (.slice a n c) n _ i (((hv.alloc (.cells #[.int .i64 N, .slice a n c, .int .i64 t] 42))).alloc (.cells #[.int .i64 0, .slice none 0 0, .int .i64 0] 42)) hn
  unfold rv
  have hmn : (outE i T).length ≤ n := by have := outE_le i T; rw [hl] at this; exact this
  generalize hm : (outE i T).length = m at *
  have HM : Hid ((outE i T).length = m) := hm
  have g1 : ¬ (i < 1) := by omega
  have g2 : ¬ (i > (N : Int)) := by omega
  clear hv QA QB hm hl
  go_enter Try.func27, Try.ntmps27
  go_upto_region 1 with fail
  generalize (W.alloc (.cells #[.int .i64 N, .slice a n c, .int .i64 t] 42)).alloc (.cells #[.int .i64 0, .slice none 0 0, .int .i64 0] 42) = w1 at *
  go_upto_region 4 with (go_at_call 38; refine cW.mono ?_; rintro ex w2 ⟨u, rfl, own2, hb2⟩)
  have HR2 : Hid (w2.ownsRow w1.heap.size 77 3 u m (rcL (outE i T)) ∧ Kept No W w2) := ⟨own2, K1.out.trans (Kept.of_below (F := No) hb2) (fun k hk => .inl hk)⟩
  have HA2 : w2.heap[W.heap.size]? = some (.cells #[.int .i64 N, .slice a n c, .int .i64 t] 42) := (Kept.of_below (F := No) hb2).at' HA.out (fun h => h)
  have HB2 : w2.heap[W.heap.size + 1]? = some (.cells #[.int .i64 0, .slice none 0 0, .int .i64 0] 42) := (Kept.of_below (F := No) hb2).at' HB.out (fun h => h)
  have own2c : ∀ g, u.ownBlock = some g → w1.heap.size ≤ g := fun g e => (own2.lt g e).1
  have hlt1 : W.heap.size + 1 < w1.heap.size := heap_lt HB.out
  have z2 := cell_of_row (k := 2) (v := .int .i64 t) HA2 rfl
  have zf := fz_row HA2
  have HA3 : Hid ((w2.setCell ⟨W.heap.size, 2, none⟩ (.int .i64 ((t : Int) + 1))).heap[W.heap.size]? = some (.cells #[.int .i64 N, .slice a n c, .int .i64 ((t : Int) + 1)] 42)) := heap_setCell_eq HA2 (.int .i64 ((t : Int) + 1)) (i := 2)
  have HB3 : Hid ((w2.setCell ⟨W.heap.size, 2, none⟩ (.int .i64 ((t : Int) + 1))).heap[W.heap.size + 1]? = some (.cells #[.int .i64 0, .slice none 0 0, .int .i64 0] 42)) := (Below.heap_setCell _ _ _ _ (by show W.heap.size + 1 ≠ W.heap.size; omega)).trans HB2
  have K3 : Hid (Kept No W (w2.setCell ⟨W.heap.size, 2, none⟩ (.int .i64 ((t : Int) + 1)))) := Kept.setCell (p := ⟨W.heap.size, 2, none⟩) HR2.out.2 (.inr (Nat.le_refl _)) _
  have HR3 : Hid ((w2.setCell ⟨W.heap.size, 2, none⟩ (.int .i64 ((t : Int) + 1))).ownsRow w1.heap.size 77 3 u m (rcL (outE i T))) := (Kept.setCell (F := fun k => k = W.heap.size) (p := ⟨W.heap.size, 2, none⟩) (Kept.refl _ w2) (.inl rfl) _).owns HR2.out.1 (fun g hg e => by have := own2c g hg; omega)
  have HS3 : Hid (w1.heap.size ≤ (w2.setCell ⟨W.heap.size, 2, none⟩ (.int .i64 ((t : Int) + 1))).heap.size) := (show _ ≤ _ by have := hb2.size; simpa [World.setCell] using this)
  clear cW own2 hb2 q0 q1 HA HB
  go_upto_region 5 with fail
  generalize w2.setCell ⟨W.heap.size, 2, none⟩ (.int .i64 ((t : Int) + 1)) = w3 at *
  clear z2 zf HA2 HB2 HR2
  have y1 := cell_of_row (k := 1) (v := .slice a n c) HA3.out rfl
  have y2 := cell_of_row (k := 2) (v := .int .i64 ((t : Int) + 1)) HA3.out rfl
  have yf := fz_row HA3.out
  have hs3 := HS3.out
  go_upto_region 6 with (at_builtin; refine wpList_append_own_at _ rfl _ _ 40 rfl w1.heap.size 77 i0 (.agg #[.int .i64 0, .int .i64 0, .int .i64 0]) 3 24 Try.underlying40 hz hz0 hz1 hz2 rfl (by decide) _ _ _ rfl (HR3.out.alloc _) ⟨w3.heap.size, 0, none⟩ 1 1 (fc (sh ⟨i, p, t⟩)) rfl rfl (cell3_new77 _ (sh ⟨i, p, t⟩)) (fc_one _) (by unfold maxLen; omega) (by omega) (by simp; omega) ?_; intro v1 w6 own1 grow1 _ at1; have hk6 : Kept (fun k => u.ownBlock = some k) w3 w6 := ((Kept.refl _ w3).alloc _).grown grow1 (fun k e => .inl e); have hA6 := hk6.at' HA3.out (fun e => by have := own2c _ e; omega); have r1 := cell_of_row (k := 1) (v := .slice a n c) hA6 rfl; have rf := fz_row hA6; obtain ⟨a6, c6, hv1⟩ : ∃ a c, v1 = .slice a (m + 1) c := (by
      rcases own1.2 with ⟨_, e2⟩ | ⟨g, cap, cur, e, _⟩
      · omega
      · exact ⟨_, _, e⟩); subst hv1; have OW : Hid (w6.ownsRow w1.heap.size 77 3 (.slice a6 (m + 1) c6) (m + 1) (rcL (outE i T) ++ fc (sh ⟨i, p, t⟩)) ∧ Kept (fun k => u.ownBlock = some k) w3 w6) := ⟨own1, hk6⟩; clear own1 grow1 at1 hk6 y1 y2 yf)
  have own6c : ∀ g, (Value.slice a6 (m + 1) c6).ownBlock = some g → w1.heap.size ≤ g := fun g e => (OW.out.1.lt g e).1
  have HA7 : Hid ((w6.setCell ⟨W.heap.size, 1, none⟩ (.slice a6 (m + 1) c6)).heap[W.heap.size]? = some (.cells #[.int .i64 N, .slice a6 (m + 1) c6, .int .i64 ((t : Int) + 1)] 42)) := heap_setCell_eq hA6 (.slice a6 (m + 1) c6) (i := 1)
  have HB7 : Hid ((w6.setCell ⟨W.heap.size, 1, none⟩ (.slice a6 (m + 1) c6)).heap[W.heap.size + 1]? = some (.cells #[.int .i64 0, .slice none 0 0, .int .i64 0] 42)) := (Below.heap_setCell _ _ _ _ (by show W.heap.size + 1 ≠ W.heap.size; omega)).trans (OW.out.2.at' HB3.out (fun e => by have := own2c _ e; omega))
  have K7 : Hid (Kept No W (w6.setCell ⟨W.heap.size, 1, none⟩ (.slice a6 (m + 1) c6))) := Kept.setCell (p := ⟨W.heap.size, 1, none⟩) (K3.out.trans OW.out.2 (fun k e => .inr (by have := own2c _ e; omega))) (.inr (Nat.le_refl _)) _
  have HR7 : Hid ((w6.setCell ⟨W.heap.size, 1, none⟩ (.slice a6 (m + 1) c6)).ownsRow w1.heap.size 77 3 (.slice a6 (m + 1) c6) (m + 1) (rcL (outE i T) ++ fc (sh ⟨i, p, t⟩))) := (Kept.setCell (F := fun k => k = W.heap.size) (p := ⟨W.heap.size, 1, none⟩) (Kept.refl _ w6) (.inl rfl) _).owns OW.out.1 (fun g hg e => by have := own6c g hg; omega)
  generalize w6.setCell ⟨W.heap.size, 1, none⟩ (.slice a6 (m + 1) c6) = w7 at *
  clear hA6 r1 rf
  have x0 := cell_of_row (k := 0) (v := .int .i64 N) HA7.out rfl
  have x1 := cell_of_row (k := 1) (v := .slice a6 (m + 1) c6) HA7.out rfl
  have x2 := cell_of_row (k := 2) (v := .int .i64 ((t : Int) + 1)) HA7.out rfl
  have xf := fz_row HB7.out
  have p0 := cell_of_row (k := 0) (v := .int .i64 0) HB7.out rfl
  have p1 := cell_of_row (k := 1) (v := .slice none 0 0) HB7.out rfl
  have p2 := cell_of_row (k := 2) (v := .int .i64 0) HB7.out rfl
  go_wp2
  have hld := ld42 (set3' HB7.out (.int .i64 N) (.slice a6 (m + 1) c6) (.int .i64 ((t : Int) + 1)))
  refine bodyPost_ret (v := .tuple #[.agg #[.int .i64 N, .slice a6 (m + 1) c6, .int .i64 ((t : Int) + 1)], .bool true]) ?_ rfl ⟨_, rfl, ?_, (set3_kept K7.out (Nat.le_succ _) _ _ _).below0⟩
  · rw [results_cell_tmp rfl]
    simp [asAddr, Result.andThen, hld]
  · rw [List.length_append, HM.out, rcL_append]
    refine (set3_keptF (q := W.heap.size + 1) w7 _ _ _).owns (owns_base HR7.out (by omega)) (fun g hg e => by have := own6c g hg; omega)
theorem rprio_any (i : Int) (hv : W.ownsRow 0 77 3 v n (rcL T)) : Calls Try.prog 31 #[rv N v t, .int .i64 i] W fun ex w' => ex = .returned (.tuple #[.int .i64 (prioE i T), .bool (findE i T).isSome]) ∧ Below W.heap.size W w' := by
  obtain ⟨hl, a, c, rfl, hc1, hc2, h3⟩ := owns_ref hv
  have Q1 : Hid ((W.alloc (.cells #[.int .i64 N, .slice a n c, .int .i64 t] 42)).heap[W.heap.size]? = some (.cells #[.int .i64 N, .slice a n c, .int .i64 t] 42)) := heap_last _ _
  have K1 : Hid (Below W.heap.size W (W.alloc (.cells #[.int .i64 N, .slice a n c, .int .i64 t] 42))) := (Below.refl _ W).alloc (Nat.le_refl _) _
  have q1 := cell_of_row (k := 1) (v := .slice a n c) Q1.out rfl
  have HL : Hid (T.length = n) := hl
  have H3 : Hid (∀ k x, T[k]? = some x → ∃ g, a = some ⟨g, 0, none⟩ ∧ (W.alloc (.cells #[.int .i64 N, .slice a n c, .int .i64 t] 42)).cell? ⟨g, k * 3, none⟩ = some (.int .i64 x.id) ∧ (W.alloc (.cells #[.int .i64 N, .slice a n c, .int .i64 t] 42)).cell? ⟨g, k * 3 + 1, none⟩ = some (.int .i64 x.pr)) := (fun k x hx => by
    obtain ⟨g, e, h4, h5, _⟩ := h3 k x hx
    have kk := (Kept.refl No W).alloc (.cells #[.int .i64 N, .slice a n c, .int .i64 t] 42)
    exact ⟨g, e, kk.cell h4 (fun h => h), kk.cell h5 (fun h => h)⟩)
  unfold rv
  clear hv h3 hl
  go_enter Try.func31, Try.ntmps31
  go_wp2
  generalize W.alloc (.cells #[.int .i64 N, .slice a n c, .int .i64 t] 42) = w1 at *
  go_loopw [6] (fun d wr => ∃ j : Nat, j ≤ n ∧ d = .int .i64 j ∧ (∀ m x, m < j → T[m]? = some x → x.id ≠ i) ∧ wr = w1) (fun d _ => n - (intOf d).toNat)
  case atStart => exact ⟨0, Nat.zero_le _, rfl, (fun m x hm => by omega), rfl⟩
  case round =>
    obtain ⟨j, hj, rfl, hno, hwr⟩ := hrel
    obtain rfl := hwr.symm
    have HNO : Hid (∀ m x, m < j → T[m]? = some x → x.id ≠ i) := hno
    clear hno hwr
    by_cases hlt : j < n
    · obtain ⟨x, hx⟩ : ∃ x, T[j]? = some x := ⟨_, List.getElem?_eq_getElem (by rw [HL.out]; exact hlt)⟩
      obtain ⟨g, rfl, r0, r1⟩ := H3.out j x hx
      have HX : Hid (T[j]? = some x) := hx
      clear hx
      by_cases hxi : x.id = i
      · have HF : Hid (findE i T = some x) := (show _ = _ by
          unfold findE
          have hjl : j < T.length := by rw [HL.out]; exact hlt
          rw [List.find?_eq_some_iff_getElem]
          refine ⟨by simp [hxi], j, hjl, by have := HX.out; rw [List.getElem?_eq_getElem hjl] at this; injection this, fun m hm => ?_⟩
          have := HNO.out m _ hm (List.getElem?_eq_getElem (by omega))
          simpa using this)
        have HP : Hid (prioE i T = x.pr) := (show _ = _ by unfold prioE; rw [HF.out]; rfl)
        go_wp2
        go_ret2
        exact ⟨by rw [HP.out, HF.out]; rfl, K1.out⟩
      · go_wp2
        go_roundw
        case rel =>
          refine ⟨j + 1, by omega, by go_num, fun m y hm hy => ?_, by first | rfl | trivial⟩
          by_cases e : m = j
          · subst e; rw [HX.out] at hy; injection hy with hy; subst hy; exact hxi
          · exact HNO.out m y (by omega) hy
        case measure => simp [intOf]; omega
    · have hjn : j = n := by omega
      subst hjn
      have HF : Hid (findE i T = none) := (show _ = _ by
        unfold findE
        rw [List.find?_eq_none]
        intro x hx
        obtain ⟨m, hm, e⟩ := List.getElem_of_mem hx
        have := HNO.out m x (by rw [← HL.out]; exact hm) (by rw [List.getElem?_eq_getElem hm, e])
        simpa using this)
      have HP : Hid (prioE i T = 0) := (show _ = _ by unfold prioE; rw [HF.out]; rfl)
      go_wp2
      go_ret2
      exact ⟨by rw [HP.out, HF.out]; rfl, K1.out⟩
end
end Go.Proofs.Yteiakmjdjaodlaa
