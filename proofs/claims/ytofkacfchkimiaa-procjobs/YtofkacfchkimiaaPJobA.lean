/-
  ProcJobs: the world's tick.
-/
import Derived.Test.YtofkacfchkimiaaPJobC
namespace Go.Proofs.Ytofkacfchkimiaa
open Go.RowKit Plain
set_option linter.unusedVariables false
set_option maxRecDepth 100000

def Xw.cells (x : Xw) : Array Value := #[.int .i64 x.rel, .int .i64 x.mis, .bool x.done, .bool x.late, .bool x.over]
theorem bx5 {w : World} {q : Nat} {a b c d e : Value} {t : TypeId} (h : w.heap[q]? = some (.cells #[a, b, c, d, e] t)) : w.cell? ⟨q, 0, none⟩ = some a ∧ w.cell? ⟨q, 1, none⟩ = some b ∧ w.cell? ⟨q, 2, none⟩ = some c ∧ w.cell? ⟨q, 3, none⟩ = some d ∧ w.cell? ⟨q, 4, none⟩ = some e := by
  refine ⟨?_, ?_, ?_, ?_, ?_⟩ <;> simp [World.cell?, h]
/-- the deadline -/
theorem miss_is (x : Xw) (n lim : Int) : x.miss n lim = if x.done = false ∧ 0 < lim ∧ n = x.rel + lim then { x with mis := x.mis + 1, over := true } else x := rfl
set_option maxHeartbeats 4000000 in
theorem at_any (q : Nat) (x : Xw) (n per lim : Int) (w : World) (hq : w.heap[q]? = some (.cells x.cells 55)) (hp : 1 ≤ per) (hp2 : per ≤ 200) (hl : 0 ≤ lim) (hl2 : lim ≤ 200) (h0 : 0 ≤ x.rel) (h1 : x.rel ≤ n) (hn : n ≤ 700000000000) (hm : 0 ≤ x.mis ∧ x.mis ≤ 1000000) :
    Calls Try.prog 19 #[.pointer (some ⟨q, 0, none⟩), .int .i64 n, .int .i64 per, .int .i64 lim] w fun e w' => (∃ v, e = .returned v) ∧ w'.heap[q]? = some (.cells (x.at n per lim).cells 55) ∧ Kept (fun k => k = q) w w' := by
  obtain ⟨rel, mis, done, late, over⟩ := x
  have e0 : 0 ≤ n - rel := by have : rel ≤ n := h1; omega
  have em : Int.tmod (n - rel) per = (n - rel) % per := Int.tmod_eq_emod_of_nonneg e0
  obtain ⟨c0, c1, c2, c3, c4⟩ := bx5 (show w.heap[q]? = some (.cells #[.int .i64 rel, .int .i64 mis, .bool done, .bool late, .bool over] _) from hq)
  have f0 := fzc hq 0
  have f1 := fzc hq 1
  have f2 := fzc hq 2
  have f3 := fzc hq 3
  have f4 := fzc hq 4
  have HQ : Hid (w.heap[q]? = some (.cells #[.int .i64 rel, .int .i64 mis, .bool done, .bool late, .bool over] 55)) := hq
  have hm1 : 0 ≤ mis := hm.1
  have hm2 : mis ≤ 1000000 := hm.2
  have h0' : 0 ≤ rel := h0
  have h1' : rel ≤ n := h1
  clear hq h0 h1 hm
  cases done with
  | true =>
    by_cases hr : rel < n
    · by_cases hz : (n - rel) % per = 0
      · skip
        have E : Hid (Xw.at ⟨rel, mis, true, late, over⟩ n per lim = ⟨n, mis, false, false, false⟩) := by
          show Xw.at _ _ _ _ = _
          simp [Xw.at, Xw.miss, Xw.turn, hr, hz]
        rw [hz] at em
        clear hz
        go_enter Try.func19, Try.ntmps19
        go_wp2
        first | go_end0 | (refine bodyPost_ret (results_none rfl _ _ _) rfl ?_)
        refine ⟨⟨_, rfl⟩, ?_, (((((Kept.refl (fun k => k = q) w).setCell (p := ⟨q, 0, none⟩) (.inl rfl) _).setCell (p := ⟨q, 2, none⟩) (.inl rfl) _).setCell (p := ⟨q, 3, none⟩) (.inl rfl) _).setCell (p := ⟨q, 4, none⟩) (.inl rfl) _)⟩
        rw [E.out]
        exact (setC 4 _ (setC 3 _ (setC 2 _ (setC 0 _ HQ.out))))
      · skip
        have E : Hid (Xw.at ⟨rel, mis, true, late, over⟩ n per lim = ⟨rel, mis, true, late, over⟩) := by
          show Xw.at _ _ _ _ = _
          simp [Xw.at, Xw.miss, Xw.turn, hz]
        obtain ⟨M, hM⟩ : ∃ M, (n - rel) % per = M := ⟨_, rfl⟩
        rw [hM] at em
        have hM0 : (M == 0) = false := by simp; exact fun e => hz (hM.trans e)
        clear hM hz
        go_enter Try.func19, Try.ntmps19
        go_wp2
        first | go_end0 | (refine bodyPost_ret (results_none rfl _ _ _) rfl ?_)
        refine ⟨⟨_, rfl⟩, ?_, (Kept.refl (fun k => k = q) w)⟩
        rw [E.out]
        exact HQ.out
    · skip
      have E : Hid (Xw.at ⟨rel, mis, true, late, over⟩ n per lim = ⟨rel, mis, true, late, over⟩) := by
        show Xw.at _ _ _ _ = _
        simp [Xw.at, Xw.miss, Xw.turn, hr]
      go_enter Try.func19, Try.ntmps19
      go_wp2
      first | go_end0 | (refine bodyPost_ret (results_none rfl _ _ _) rfl ?_)
      refine ⟨⟨_, rfl⟩, ?_, (Kept.refl (fun k => k = q) w)⟩
      rw [E.out]
      exact HQ.out
  | false =>
    by_cases hlm : 0 < lim
    · by_cases he : n = rel + lim
      · subst he
        have hr : rel < rel + lim := by omega
        have ea : rel + lim - rel = lim := by omega
        rw [ea] at em
        by_cases hz : lim % per = 0
        · skip
          have E : Hid (Xw.at ⟨rel, mis, false, late, over⟩ (rel + lim) per lim = ⟨rel, mis + 1, false, true, true⟩) := by
            show Xw.at _ _ _ _ = _
            simp [Xw.at, Xw.miss, Xw.turn, hlm, hr, ea, hz]
          rw [hz] at em
          clear hz
          go_enter Try.func19, Try.ntmps19
          go_wp2
          first | go_end0 | (refine bodyPost_ret (results_none rfl _ _ _) rfl ?_)
          refine ⟨⟨_, rfl⟩, ?_, ((((Kept.refl (fun k => k = q) w).setCell (p := ⟨q, 1, none⟩) (.inl rfl) _).setCell (p := ⟨q, 4, none⟩) (.inl rfl) _).setCell (p := ⟨q, 3, none⟩) (.inl rfl) _)⟩
          rw [E.out]
          exact (setC 3 _ (setC 4 _ (setC 1 _ HQ.out)))
        · skip
          have E : Hid (Xw.at ⟨rel, mis, false, late, over⟩ (rel + lim) per lim = ⟨rel, mis + 1, false, late, true⟩) := by
            show Xw.at _ _ _ _ = _
            simp [Xw.at, Xw.miss, Xw.turn, hlm, ea, hz]
          obtain ⟨M, hM⟩ : ∃ M, lim % per = M := ⟨_, rfl⟩
          rw [hM] at em
          have hM0 : (M == 0) = false := by simp; exact fun e => hz (hM.trans e)
          clear hM hz
          go_enter Try.func19, Try.ntmps19
          go_wp2
          first | go_end0 | (refine bodyPost_ret (results_none rfl _ _ _) rfl ?_)
          refine ⟨⟨_, rfl⟩, ?_, (((Kept.refl (fun k => k = q) w).setCell (p := ⟨q, 1, none⟩) (.inl rfl) _).setCell (p := ⟨q, 4, none⟩) (.inl rfl) _)⟩
          rw [E.out]
          exact (setC 4 _ (setC 1 _ HQ.out))
      · have he' : (n == rel + lim) = false := by simp [he]
        have hno : ¬ (0 < lim ∧ n = rel + lim) := fun e => he e.2
        by_cases hr : rel < n
        · by_cases hz : (n - rel) % per = 0
          · skip
            have E : Hid (Xw.at ⟨rel, mis, false, late, over⟩ n per lim = ⟨rel, mis, false, true, over⟩) := by
              show Xw.at _ _ _ _ = _
              simp [Xw.at, Xw.miss, Xw.turn, hno, hr, hz]
            rw [hz] at em
            clear hz
            go_enter Try.func19, Try.ntmps19
            go_wp2
            first | go_end0 | (refine bodyPost_ret (results_none rfl _ _ _) rfl ?_)
            refine ⟨⟨_, rfl⟩, ?_, ((Kept.refl (fun k => k = q) w).setCell (p := ⟨q, 3, none⟩) (.inl rfl) _)⟩
            rw [E.out]
            exact (setC 3 _ HQ.out)
          · skip
            have E : Hid (Xw.at ⟨rel, mis, false, late, over⟩ n per lim = ⟨rel, mis, false, late, over⟩) := by
              show Xw.at _ _ _ _ = _
              simp [Xw.at, Xw.miss, Xw.turn, hno, hz]
            obtain ⟨M, hM⟩ : ∃ M, (n - rel) % per = M := ⟨_, rfl⟩
            rw [hM] at em
            have hM0 : (M == 0) = false := by simp; exact fun e => hz (hM.trans e)
            clear hM hz
            go_enter Try.func19, Try.ntmps19
            go_wp2
            first | go_end0 | (refine bodyPost_ret (results_none rfl _ _ _) rfl ?_)
            refine ⟨⟨_, rfl⟩, ?_, (Kept.refl (fun k => k = q) w)⟩
            rw [E.out]
            exact HQ.out
        · skip
          have E : Hid (Xw.at ⟨rel, mis, false, late, over⟩ n per lim = ⟨rel, mis, false, late, over⟩) := by
            show Xw.at _ _ _ _ = _
            simp [Xw.at, Xw.miss, Xw.turn, hno, hr]
          go_enter Try.func19, Try.ntmps19
          go_wp2
          first | go_end0 | (refine bodyPost_ret (results_none rfl _ _ _) rfl ?_)
          refine ⟨⟨_, rfl⟩, ?_, (Kept.refl (fun k => k = q) w)⟩
          rw [E.out]
          exact HQ.out
    · have hno : ¬ (0 < lim ∧ n = rel + lim) := fun e => hlm e.1
      by_cases hr : rel < n
      · by_cases hz : (n - rel) % per = 0
        · skip
          have E : Hid (Xw.at ⟨rel, mis, false, late, over⟩ n per lim = ⟨rel, mis, false, true, over⟩) := by
            show Xw.at _ _ _ _ = _
            simp [Xw.at, Xw.miss, Xw.turn, hno, hr, hz]
          rw [hz] at em
          clear hz
          go_enter Try.func19, Try.ntmps19
          go_wp2
          first | go_end0 | (refine bodyPost_ret (results_none rfl _ _ _) rfl ?_)
          refine ⟨⟨_, rfl⟩, ?_, ((Kept.refl (fun k => k = q) w).setCell (p := ⟨q, 3, none⟩) (.inl rfl) _)⟩
          rw [E.out]
          exact (setC 3 _ HQ.out)
        · skip
          have E : Hid (Xw.at ⟨rel, mis, false, late, over⟩ n per lim = ⟨rel, mis, false, late, over⟩) := by
            show Xw.at _ _ _ _ = _
            simp [Xw.at, Xw.miss, Xw.turn, hno, hz]
          obtain ⟨M, hM⟩ : ∃ M, (n - rel) % per = M := ⟨_, rfl⟩
          rw [hM] at em
          have hM0 : (M == 0) = false := by simp; exact fun e => hz (hM.trans e)
          clear hM hz
          go_enter Try.func19, Try.ntmps19
          go_wp2
          first | go_end0 | (refine bodyPost_ret (results_none rfl _ _ _) rfl ?_)
          refine ⟨⟨_, rfl⟩, ?_, (Kept.refl (fun k => k = q) w)⟩
          rw [E.out]
          exact HQ.out
      · skip
        have E : Hid (Xw.at ⟨rel, mis, false, late, over⟩ n per lim = ⟨rel, mis, false, late, over⟩) := by
          show Xw.at _ _ _ _ = _
          simp [Xw.at, Xw.miss, Xw.turn, hno, hr]
        go_enter Try.func19, Try.ntmps19
        go_wp2
        first | go_end0 | (refine bodyPost_ret (results_none rfl _ _ _) rfl ?_)
        refine ⟨⟨_, rfl⟩, ?_, (Kept.refl (fun k => k = q) w)⟩
        rw [E.out]
        exact HQ.out
end Go.Proofs.Ytofkacfchkimiaa
