/-
  proc: the ticks of a process's timers.
-/
import Derived.Test.YtofkacfchkimiaaPJob
namespace Go.Proofs.Ytofkacfchkimiaa
open Go.RowKit Plain
set_option linter.unusedVariables false
set_option maxRecDepth 100000

def Pr.tkD (p : Pr) : Int := if p.st = 0 then -1 else p.dl
def Pr.tkR (p : Pr) : Int := if p.st = 0 then -1 else if p.st = 3 then p.un else if 0 < p.per ∧ p.late = false then ltr p.rel p.per else -1
def Pr.tkW (p : Pr) : Int := if p.wk then p.un else -1
def Pr.tks (p : Pr) : Value := .agg #[.int .i64 p.tkD, .int .i64 p.tkR, .int .i64 p.tkW]

theorem alloc_new (w : World) (o : Obj) : (w.alloc o).heap[w.heap.size]? = some o := by simp only [World.alloc]; simp
theorem bx3 {w : World} {q : Nat} {u v z : Value} {t : TypeId} (h : w.heap[q]? = some (.cells #[u, v, z] t)) : w.cell? ⟨q, 0, none⟩ = some u ∧ w.cell? ⟨q, 1, none⟩ = some v ∧ w.cell? ⟨q, 2, none⟩ = some z := by
  refine ⟨?_, ?_, ?_⟩ <;> simp [World.cell?, h]
theorem fz3 {w : World} {q : Nat} {c : Array Value} {t : TypeId} (h : w.heap[q]? = some (.cells c t)) (j : Nat) : w.frozen? ⟨q, j, none⟩ = false := by
  simp [World.frozen?, h]
theorem set3 {w : World} {q : Nat} {u v z : Value} {t : TypeId} (h : w.heap[q]? = some (.cells #[u, v, z] t)) (u' v' z' : Value) : (((w.setCell ⟨q, 0, none⟩ u').setCell ⟨q, 1, none⟩ v').setCell ⟨q, 2, none⟩ z').heap[q]? = some (.cells #[u', v', z'] t) := by
  simp [World.setCell, Array.getElem?_modify, h]
theorem ld3 {w : World} {q : Nat} {u v z : Value} (h : w.heap[q]? = some (.cells #[u, v, z] 97)) : (loadVar 97 ⟨q, 0, none⟩).run Try.prog w = .ok (.agg #[u, v, z]) w :=
  run_loadVar_row (P := Try.prog) w q 97 97 _ (0, 0) _ h Try.underlying97 rfl (by kernel_rfl)
theorem results_cellI {P : Program} {fn : Func} {p : Tmp} {ty : TypeId} (h : fn.results = #[.cell p ty]) (tmps : Array Value) (w : World) (g : Nat) (v : Value)
    (hp : tmps.getD p undef = .pointer (some ⟨g, 0, none⟩)) (hl : (loadVar ty ⟨g, 0, none⟩).run P w = .ok v w) : (results fn tmps).run P w = .ok v w := by
  have hp' : tmps[p]?.getD undef = .pointer (some ⟨g, 0, none⟩) := by simpa using hp
  simp [results, h, hp', asAddr, hl]
section
variable {b g cap : Nat} {T : Tt}
set_option maxHeartbeats 4000000 in
theorem ticks_any (w : World) (h : Tw w b g cap T) {i : Nat} (hi : i < T.n) :
    Calls Try.prog 42 #[.pointer (some ⟨g, i * 32, none⟩)] w fun e w' => e = .returned (T.ps i).tks ∧ Kept No w w' := by
  have k1 : Kept No w ((w.alloc (.cells #[.int .i64 0, .int .i64 0, .int .i64 0] 97)).alloc (.cells #[.int .i64 (-1), .int .i64 (-1), .int .i64 (-1)] 97)) := ((Kept.refl No w).alloc _).alloc _
  have hB0 : ((w.alloc (.cells #[.int .i64 0, .int .i64 0, .int .i64 0] 97)).alloc (.cells #[.int .i64 (-1), .int .i64 (-1), .int .i64 (-1)] 97)).heap[w.heap.size]? = some (.cells #[.int .i64 0, .int .i64 0, .int .i64 0] 97) := ((Kept.refl No _).alloc _).at' (alloc_new _ _) (fun h => h)
  have hB1 : ((w.alloc (.cells #[.int .i64 0, .int .i64 0, .int .i64 0] 97)).alloc (.cells #[.int .i64 (-1), .int .i64 (-1), .int .i64 (-1)] 97)).heap[w.heap.size + 1]? = some (.cells #[.int .i64 (-1), .int .i64 (-1), .int .i64 (-1)] 97) := by
    have := alloc_new (w.alloc (.cells #[.int .i64 0, .int .i64 0, .int .i64 0] 97)) (.cells #[.int .i64 (-1), .int .i64 (-1), .int .i64 (-1)] 97)
    rwa [World.size_alloc] at this
  have t1 := h.keep k1
  have Hh : Hid (Tw w b g cap T) := h
  obtain ⟨V, hV⟩ : ∃ V, (T.ps i).tks = V := ⟨_, rfl⟩
  have HV : Hid ((T.ps i).tks = V) := hV
  rw [hV]
  clear hV
  have hl := h.low.2
  clear h
  go_enter Try.func42, Try.ntmps42
  go_upto_region 2 with fail
  obtain ⟨q1, hq1⟩ : ∃ q, w.heap.size + 1 = q := ⟨_, rfl⟩
  obtain ⟨q0, hq0⟩ : ∃ q, w.heap.size = q := ⟨_, rfl⟩
  generalize ((w.alloc (.cells #[.int .i64 0, .int .i64 0, .int .i64 0] 97)).alloc (.cells #[.int .i64 (-1), .int .i64 (-1), .int .i64 (-1)] 97)) = w1 at *
  rw [hq1] at hB1
  rw [hq0] at hB0
  simp only [hq1]
  simp only [hq0]
  have HB : Hid (w1.heap[q0]? = some (.cells #[.int .i64 0, .int .i64 0, .int .i64 0] 97) ∧ w1.heap[q1]? = some (.cells #[.int .i64 (-1), .int .i64 (-1), .int .i64 (-1)] 97) ∧ Kept No w w1 ∧ w.heap.size = q0 ∧ w.heap.size + 1 = q1 ∧ Tw w1 b g cap T) := ⟨hB0, hB1, k1, hq0, hq1, t1⟩
  obtain ⟨a0, a1, a2⟩ := bx3 hB0
  obtain ⟨b0, b1, b2⟩ := bx3 hB1
  have fa0 := fz3 hB0 0
  have fa1 := fz3 hB0 1
  have fa2 := fz3 hB0 2
  have fb0 := fz3 hB1 0
  have fb1 := fz3 hB1 1
  have fb2 := fz3 hB1 2
  have n0 : q0 ≠ q1 := by omega
  have n1 : g ≠ q0 := by omega
  have n2 : g ≠ q1 := by omega
  have c0 : w1.cell? ⟨g, i * 32, none⟩ = some (.int .i64 (T.ps i).st) := t1.at' i hi 0 (by omega)
  have c20 : w1.cell? ⟨g, i * 32 + 20, none⟩ = some (.int .i64 (T.ps i).rel) := t1.at' i hi 20 (by omega)
  have c21 : w1.cell? ⟨g, i * 32 + 21, none⟩ = some (.int .i64 (T.ps i).dl) := t1.at' i hi 21 (by omega)
  have c22 : w1.cell? ⟨g, i * 32 + 22, none⟩ = some (.int .i64 (T.ps i).un) := t1.at' i hi 22 (by omega)
  have c23 : w1.cell? ⟨g, i * 32 + 23, none⟩ = some (.bool (T.ps i).late) := t1.at' i hi 23 (by omega)
  have c30 : w1.cell? ⟨g, i * 32 + 30, none⟩ = some (.int .i64 (T.ps i).per) := t1.at' i hi 30 (by omega)
  clear hB0 hB1 k1 hq0 hq1 t1
  by_cases h0 : (T.ps i).st = 0
  · have hw : (T.ps i).wk = false := by unfold Pr.wk; rw [h0]; rfl
    rw [h0] at c0
    clear c20 c21 c22 c23 c30
    go_wp2
    refine bodyPost_ret (results_cellI rfl _ _ q0 (.agg #[.int .i64 (-1), .int .i64 (-1), .int .i64 (-1)]) rfl (ld3 (set3 HB.out.1 _ _ _))) rfl ?_
    refine ⟨?_, ((HB.out.2.2.1.setCell (.inr (by have := HB.out.2.2.2.1; show _ ≤ q0; omega)) _).setCell (.inr (by have := HB.out.2.2.2.1; show _ ≤ q0; omega)) _).setCell (.inr (by have := HB.out.2.2.2.1; show _ ≤ q0; omega)) _⟩
    rw [← HV.out]
    unfold Pr.tks Pr.tkD Pr.tkR Pr.tkW
    rw [if_pos h0, if_pos h0, hw]
    rfl
  · have hne0 : (T.ps i).st ≠ 0 := h0
    go_upto_region 5 with fail
    have w2b1 : (w1.setCell ⟨q1, 0, none⟩ (.int .i64 (T.ps i).dl)).heap[q1]? = some (.cells #[.int .i64 (T.ps i).dl, .int .i64 (-1), .int .i64 (-1)] 97) := by
      have := HB.out.2.1
      simp [World.setCell, Array.getElem?_modify, this]
    have hn10 : q1 ≠ q0 := fun e => n0 e.symm
    have w2b0 : (w1.setCell ⟨q1, 0, none⟩ (.int .i64 (T.ps i).dl)).heap[q0]? = some (.cells #[.int .i64 0, .int .i64 0, .int .i64 0] 97) := by
      have := HB.out.1
      simp [World.setCell, Array.getElem?_modify, this, hn10]
    have k2 : Kept No w (w1.setCell ⟨q1, 0, none⟩ (.int .i64 (T.ps i).dl)) := HB.out.2.2.1.setCell (.inr (by have := HB.out.2.2.2.2.1; show _ ≤ q1; omega)) _
    have hs0 := HB.out.2.2.2.1
    have hs1 := HB.out.2.2.2.2.1
    clear HB a0 a1 a2 b0 b1 b2 fa0 fa1 fa2 fb0 fb1 fb2 c0 c20 c21 c22 c23 c30
    generalize (w1.setCell ⟨q1, 0, none⟩ (.int .i64 (T.ps i).dl)) = w2 at *
    have t2 := Hh.out.keep k2
    have pe := periodic_any w2 t2 hi
    have wa := wakeable_any w2 t2 hi
    have HT : Hid (Tw w b g cap T ∧ Kept No w w2 ∧ w2.heap[q0]? = some (.cells #[.int .i64 0, .int .i64 0, .int .i64 0] 97) ∧ w2.heap[q1]? = some (.cells #[.int .i64 (T.ps i).dl, .int .i64 (-1), .int .i64 (-1)] 97) ∧ w.heap.size = q0 ∧ w.heap.size + 1 = q1) := ⟨Hh.out, k2, w2b0, w2b1, hs0, hs1⟩
    obtain ⟨a0, a1, a2⟩ := bx3 w2b0
    obtain ⟨b0, b1, b2⟩ := bx3 w2b1
    have fa0 := fz3 w2b0 0
    have fa1 := fz3 w2b0 1
    have fa2 := fz3 w2b0 2
    have fb0 := fz3 w2b1 0
    have fb1 := fz3 w2b1 1
    have fb2 := fz3 w2b1 2
    have c0 : w2.cell? ⟨g, i * 32, none⟩ = some (.int .i64 (T.ps i).st) := t2.at' i hi 0 (by omega)
    have c20 : w2.cell? ⟨g, i * 32 + 20, none⟩ = some (.int .i64 (T.ps i).rel) := t2.at' i hi 20 (by omega)
    have c22 : w2.cell? ⟨g, i * 32 + 22, none⟩ = some (.int .i64 (T.ps i).un) := t2.at' i hi 22 (by omega)
    have c23 : w2.cell? ⟨g, i * 32 + 23, none⟩ = some (.bool (T.ps i).late) := t2.at' i hi 23 (by omega)
    have c30 : w2.cell? ⟨g, i * 32 + 30, none⟩ = some (.int .i64 (T.ps i).per) := t2.at' i hi 30 (by omega)
    clear Hh k2 w2b0 w2b1 hs0 hs1 t2
    have kz : ∀ (W : World), Kept No w W → ∀ (v : Value) (q : Nat) {j : Nat}, (q = q0 ∨ q = q1) → Kept No w (W.setCell ⟨q, j, none⟩ v) := fun W k v q j hq => k.setCell (.inr (by have h1 := HT.out.2.2.2.2.1; have h2 := HT.out.2.2.2.2.2; show _ ≤ q; omega)) v
    by_cases h3 : (T.ps i).st = 3
    · have hw : (T.ps i).wk = false := by unfold Pr.wk; rw [h3]; rfl
      rw [hw] at wa
      rw [h3] at c0
      have wa' : Hid (∀ W, Kept No w W → Calls Try.prog 43 #[.pointer (some ⟨g, i * 32, none⟩)] W fun e w' => e = .returned (.bool false) ∧ w' = W) := fun W k => by have := wakeable_any W (HT.out.1.keep k) hi; rwa [hw] at this
      have wb := wa'.out (w2.setCell ⟨q1, 1, none⟩ (.int .i64 (T.ps i).un)) (HT.out.2.1.setCell (.inr (by have := HT.out.2.2.2.2.2; show _ ≤ q1; omega)) _)
      have HQ : Hid (V = .agg #[.int .i64 (T.ps i).dl, .int .i64 (T.ps i).un, .int .i64 (-1)]) := by
        show V = _
        rw [← HV.out]
        unfold Pr.tks Pr.tkD Pr.tkR Pr.tkW
        rw [if_neg h0, if_neg h0, if_pos h3, hw]
        rfl
      clear pe wa h0 hne0 h3 HV wa' hw
      generalize (T.ps i).dl = xd at *
      generalize (T.ps i).un = xu at *
      go_wp2_with (go_at_call 43; refine wb.mono ?_; rintro e w' ⟨rfl, rfl⟩)
      refine bodyPost_ret (results_cellI rfl _ _ q0 (.agg #[.int .i64 xd, .int .i64 xu, .int .i64 (-1)]) rfl (ld3 (set3 (u := .int .i64 0) (v := .int .i64 0) (z := .int .i64 0) (q := q0) (w := w2.setCell ⟨q1, 1, none⟩ (.int .i64 xu)) (by
        have := HT.out.2.2.1
        simp [World.setCell, Array.getElem?_modify, this, hn10]) _ _ _))) rfl ?_
      exact ⟨by rw [HQ.out], kz _ (kz _ (kz _ (kz _ HT.out.2.1 _ _ (.inr rfl)) _ _ (.inl rfl)) _ _ (.inl rfl)) _ _ (.inl rfl)⟩
    · have kW : Hid (∀ W, Kept No w W → Calls Try.prog 43 #[.pointer (some ⟨g, i * 32, none⟩)] W fun e w' => e = .returned (.bool (T.ps i).wk) ∧ w' = W) := fun W k => wakeable_any W (HT.out.1.keep k) hi
      have s3 : ((T.ps i).st == 3) = false := by simp [h3]
      by_cases hp : 0 < (T.ps i).per ∧ (T.ps i).late = false
      · obtain ⟨hp1, hp2⟩ := hp
        rw [show decide (0 < (T.ps i).per) = true by simp [hp1]] at pe
        rw [hp2] at c23
        have la : Hid (∀ W, Calls Try.prog 66 #[.int .i64 (T.ps i).rel, .int .i64 (T.ps i).per] W fun e w' => e = .returned (.int .i64 (ltr (T.ps i).rel (T.ps i).per)) ∧ w' = W) := fun W => later_any _ _ W
        have HQ : Hid (V = .agg #[.int .i64 (T.ps i).dl, .int .i64 (ltr (T.ps i).rel (T.ps i).per), .int .i64 (if (T.ps i).wk then (T.ps i).un else -1)]) := by
          show V = _
          rw [← HV.out]
          unfold Pr.tks Pr.tkD Pr.tkR Pr.tkW
          rw [if_neg h0, if_neg h0, if_neg h3, if_pos ⟨hp1, hp2⟩]
        clear wa h0 hne0 h3 HV hp1 hp2
        generalize (T.ps i).dl = xd at *
        obtain ⟨xu, hxu⟩ : ∃ x, (T.ps i).un = x := ⟨_, rfl⟩
        have HXU : Hid ((T.ps i).un = xu) := hxu
        rw [hxu] at HQ
        clear c22 hxu
        generalize ltr (T.ps i).rel (T.ps i).per = xl at *
        generalize (T.ps i).rel = xr at c20 la
        generalize (T.ps i).per = xp at c30 la pe
        generalize (T.ps i).st = xs at *
        go_upto_region 8 with (go_at_call 47; refine pe.mono ?_; rintro e w' ⟨rfl, rfl⟩; clear pe)
        go_region_with (go_at_call 66; refine (la.out _).mono ?_; rintro e w3 ⟨rfl, rfl⟩)
        all_goals
          have kx : Kept No w ((w'.setCell ⟨q1, 1, none⟩ (.int .i64 xl)).drew) := (kz _ HT.out.2.1 _ _ (.inr rfl)).drew
          have e0 : ((w'.setCell ⟨q1, 1, none⟩ (.int .i64 xl)).drew).heap[q0]? = some (.cells #[.int .i64 0, .int .i64 0, .int .i64 0] 97) := by
            have := HT.out.2.2.1
            simp [World.setCell, World.drew, Array.getElem?_modify, this, hn10]
          have e1 : ((w'.setCell ⟨q1, 1, none⟩ (.int .i64 xl)).drew).heap[q1]? = some (.cells #[.int .i64 xd, .int .i64 xl, .int .i64 (-1)] 97) := by
            have := HT.out.2.2.2.1
            simp [World.setCell, World.drew, Array.getElem?_modify, this]
          have HT2 : Hid (Kept No w ((w'.setCell ⟨q1, 1, none⟩ (.int .i64 xl)).drew) ∧ ((w'.setCell ⟨q1, 1, none⟩ (.int .i64 xl)).drew).heap[q0]? = some (.cells #[.int .i64 0, .int .i64 0, .int .i64 0] 97)) := ⟨kx, e0⟩
          have ka := kW.out _ kx
          have x22 := (HT.out.1.keep kx).at' i hi 22 (by omega)
          obtain ⟨a0, a1, a2⟩ := bx3 e0
          obtain ⟨b0, b1, b2⟩ := bx3 e1
          have fa0 := fz3 e0 0
          have fa1 := fz3 e0 1
          have fa2 := fz3 e0 2
          have fb2 := fz3 e1 2
          clear kx e0 e1
          generalize ((w'.setCell ⟨q1, 1, none⟩ (.int .i64 xl)).drew) = w4 at *
          cases hB : (T.ps i).wk with
          | false =>
            rw [hB] at ka HQ
            go_wp2_with (go_at_call 43; refine ka.mono ?_; rintro e w5 ⟨rfl, rfl⟩; clear ka)
            refine bodyPost_ret (results_cellI rfl _ _ q0 (.agg #[.int .i64 xd, .int .i64 xl, .int .i64 (-1)]) rfl (ld3 (set3 HT2.out.2 _ _ _))) rfl ?_
            exact ⟨by rw [HQ.out]; rfl, kz _ (kz _ (kz _ HT2.out.1 _ _ (.inl rfl)) _ _ (.inl rfl)) _ _ (.inl rfl)⟩
          | true =>
            rw [hB] at ka HQ
            have c22 : w4.cell? ⟨g, i * 32 + 22, none⟩ = some (.int .i64 (T.ps i).un) := x22
            rw [HXU.out] at c22
            clear x22
            go_wp2_with (go_at_call 43; refine ka.mono ?_; rintro e w5 ⟨rfl, rfl⟩; clear ka)
            refine bodyPost_ret (results_cellI rfl _ _ q0 (.agg #[.int .i64 xd, .int .i64 xl, .int .i64 xu]) rfl (ld3 (set3 (u := .int .i64 0) (v := .int .i64 0) (z := .int .i64 0) (q := q0) (by
              have := HT2.out.2
              simp [World.setCell, Array.getElem?_modify, this, hn10]) _ _ _))) rfl ?_
            exact ⟨by rw [HQ.out]; rfl, kz _ (kz _ (kz _ (kz _ HT2.out.1 _ _ (.inr rfl)) _ _ (.inl rfl)) _ _ (.inl rfl)) _ _ (.inl rfl)⟩
      · have HQ : Hid (V = .agg #[.int .i64 (T.ps i).dl, .int .i64 (-1), .int .i64 (if (T.ps i).wk then (T.ps i).un else -1)]) := by
          show V = _
          rw [← HV.out]
          unfold Pr.tks Pr.tkD Pr.tkR Pr.tkW
          rw [if_neg h0, if_neg h0, if_neg h3, if_neg hp]
        clear wa h0 hne0 h3 HV
        generalize (T.ps i).dl = xd at *
        generalize (T.ps i).un = xu at *
        generalize (T.ps i).st = xs at *
        by_cases hp1 : 0 < (T.ps i).per
        · have hp2 : (T.ps i).late = true := by
            cases hl : (T.ps i).late with
            | true => rfl
            | false => exact (hp ⟨hp1, hl⟩).elim
          rw [show decide (0 < (T.ps i).per) = true by simp [hp1]] at pe
          rw [hp2] at c23
          clear hp hp1 hp2
          go_upto_region 9 with (go_at_call 47; refine pe.mono ?_; rintro e w' ⟨rfl, rfl⟩; clear pe)
          have e0 := HT.out.2.2.1
          have e1 := HT.out.2.2.2.1
          have ka := kW.out _ HT.out.2.1
          obtain ⟨a0, a1, a2⟩ := bx3 e0
          obtain ⟨b0, b1, b2⟩ := bx3 e1
          have fa0 := fz3 e0 0
          have fa1 := fz3 e0 1
          have fa2 := fz3 e0 2
          have fb2 := fz3 e1 2
          clear e0 e1
          cases hB : (T.ps i).wk with
          | false =>
            rw [hB] at ka HQ
            go_wp2_with (go_at_call 43; refine ka.mono ?_; rintro e w5 ⟨rfl, rfl⟩; clear ka)
            refine bodyPost_ret (results_cellI rfl _ _ q0 (.agg #[.int .i64 xd, .int .i64 (-1), .int .i64 (-1)]) rfl (ld3 (set3 HT.out.2.2.1 _ _ _))) rfl ?_
            exact ⟨by rw [HQ.out]; rfl, kz _ (kz _ (kz _ HT.out.2.1 _ _ (.inl rfl)) _ _ (.inl rfl)) _ _ (.inl rfl)⟩
          | true =>
            rw [hB] at ka HQ
            go_wp2_with (go_at_call 43; refine ka.mono ?_; rintro e w5 ⟨rfl, rfl⟩; clear ka)
            refine bodyPost_ret (results_cellI rfl _ _ q0 (.agg #[.int .i64 xd, .int .i64 (-1), .int .i64 xu]) rfl (ld3 (set3 (u := .int .i64 0) (v := .int .i64 0) (z := .int .i64 0) (q := q0) (by
              have := HT.out.2.2.1
              simp [World.setCell, Array.getElem?_modify, this, hn10]) _ _ _))) rfl ?_
            exact ⟨by rw [HQ.out]; rfl, kz _ (kz _ (kz _ (kz _ HT.out.2.1 _ _ (.inr rfl)) _ _ (.inl rfl)) _ _ (.inl rfl)) _ _ (.inl rfl)⟩
        · rw [show decide (0 < (T.ps i).per) = false by simp [hp1]] at pe
          clear hp hp1
          go_upto_region 9 with (go_at_call 47; refine pe.mono ?_; rintro e w' ⟨rfl, rfl⟩; clear pe)
          have e0 := HT.out.2.2.1
          have e1 := HT.out.2.2.2.1
          have ka := kW.out _ HT.out.2.1
          obtain ⟨a0, a1, a2⟩ := bx3 e0
          obtain ⟨b0, b1, b2⟩ := bx3 e1
          have fa0 := fz3 e0 0
          have fa1 := fz3 e0 1
          have fa2 := fz3 e0 2
          have fb2 := fz3 e1 2
          clear e0 e1
          cases hB : (T.ps i).wk with
          | false =>
            rw [hB] at ka HQ
            go_wp2_with (go_at_call 43; refine ka.mono ?_; rintro e w5 ⟨rfl, rfl⟩; clear ka)
            refine bodyPost_ret (results_cellI rfl _ _ q0 (.agg #[.int .i64 xd, .int .i64 (-1), .int .i64 (-1)]) rfl (ld3 (set3 HT.out.2.2.1 _ _ _))) rfl ?_
            exact ⟨by rw [HQ.out]; rfl, kz _ (kz _ (kz _ HT.out.2.1 _ _ (.inl rfl)) _ _ (.inl rfl)) _ _ (.inl rfl)⟩
          | true =>
            rw [hB] at ka HQ
            go_wp2_with (go_at_call 43; refine ka.mono ?_; rintro e w5 ⟨rfl, rfl⟩; clear ka)
            refine bodyPost_ret (results_cellI rfl _ _ q0 (.agg #[.int .i64 xd, .int .i64 (-1), .int .i64 xu]) rfl (ld3 (set3 (u := .int .i64 0) (v := .int .i64 0) (z := .int .i64 0) (q := q0) (by
              have := HT.out.2.2.1
              simp [World.setCell, Array.getElem?_modify, this, hn10]) _ _ _))) rfl ?_
            exact ⟨by rw [HQ.out]; rfl, kz _ (kz _ (kz _ (kz _ HT.out.2.1 _ _ (.inr rfl)) _ _ (.inl rfl)) _ _ (.inl rfl)) _ _ (.inl rfl)⟩
end
end Go.Proofs.Ytofkacfchkimiaa
