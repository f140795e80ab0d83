/-
  health: the calls that answer verdicts.
-/
import Derived.Test.YtledndpcceejpaaDoorHVer
import Derived.Test.YtledndpcceejpaaDoorHHeld
import Derived.Laws.Rows
import Derived.Deep.MidRow
namespace Go.Proofs.YtledndpcceejpaaDoor
open Go.RowKit
set_option linter.unusedVariables false
set_option maxRecDepth 100000

/-- the handler's number -/
def hOf (n : Nat) (h : Int) : Int := if inB h 1 n = true then h else 0
theorem ldPn {w : World} {b : Nat} {cs : List Value} (h : w.heap[b]? = some (.cells cs.toArray 36)) (hl : cs.length = 21) : (Instr.loadAt 36 (.pointer (some ⟨b, 0, none⟩))).run Tryd.prog w = .ok (.agg cs.toArray) w :=
  run_loadAt_mid w b 0 _ cs _ (fun j v hv => by rw [Nat.zero_add]; simp [World.cell?, h, hv]) Tryd.underlying36 rfl (by rw [hl]; exact Tryd.info21)
theorem handlerOf_any (cs : List Value) (a : Option Addr) (n c : Nat) (h : Int) (hl : cs.length = 21) (h8 : cs[8]? = some (.slice a n c)) (h9 : cs[9]? = some (.int .i64 h)) (w : World) : Calls Tryd.prog 18 #[.agg cs.toArray] w fun e w' => e = .returned (.int .i64 (hOf n h)) ∧ Kept No w w' := by
  have HK : Hid (Kept No w (w.alloc (.cells cs.toArray 36))) := (Kept.refl No w).alloc _
  have d9 := pn_cell w cs 36 9 _ h9
  have HLD := hid (ldPn (heap_alloc_new w (.cells cs.toArray 36)) hl)
  have q := isThere_any cs a n c h8 h (w.alloc (.cells cs.toArray 36))
  unfold hOf
  clear h8 h9 hl
  cases hb : inB h 1 n
  · rw [hb] at q
    rw [if_neg (by decide)]
    clear hb
    go_enter Tryd.func18, Tryd.ntmps18
    go_wp2_with (first | (refine l_take 3 rfl rfl (er_ld _ _ rfl _ _ rfl HLD.out) ?_) | go_at_call 17; refine q.mono ?_; rintro e w' ⟨rfl, k1⟩; have K1 := hid k1; clear k1)
    go_ret
    exact ⟨rfl, HK.out.trans K1.out (fun _ e => .inl e)⟩
  · rw [hb] at q
    rw [if_pos rfl]
    clear hb
    go_enter Tryd.func18, Tryd.ntmps18
    go_wp2_with (first | (refine l_take 3 rfl rfl (er_ld _ _ rfl _ _ rfl HLD.out) ?_) | go_at_call 17; refine q.mono ?_; rintro e w' ⟨rfl, k1⟩; have d9' := k1.cell d9 (fun h => h); have K1 := hid k1; clear k1)
    go_ret
    exact ⟨rfl, HK.out.trans K1.out (fun _ e => .inl e)⟩

/-- the verdict -/
def jdA (n : Nat) (h : Int) (t : Nat → Int) (k p : Int) (busy : Bool) : Int :=
  if inB k 1 7 = false then 0 else if inB p 1 n = false then 0 else if p = hOf n h then 4 else if hdl (t k.toNat) (hOf n h) busy = 0 ∧ k = 4 then 1 else hdl (t k.toNat) (hOf n h) busy
def jdP (n : Nat) (h : Int) (t : Nat → Int) (k p : Int) (busy : Bool) : Int :=
  if inB k 1 7 = false then 0 else if inB p 1 n = false then 0 else if p = hOf n h then 0 else aimP (jdA n h t k p busy) p (hOf n h)

/-- a world in which the partition is boxed and the answer's cells stand behind it -/
structure Jw (w : World) (cs : List Value) (W : World) : Prop where
  hk : Kept No w W
  hb : W.heap[w.heap.size]? = some (.cells cs.toArray 36)
  hr : W.heap[w.heap.size + 1]? = some (.cells #[.int .i64 0, .int .i64 0] 26)
namespace Jw
variable {w W W' : World} {cs : List Value}
theorem mk0 (w : World) (cs : List Value) : Jw w cs ((w.alloc (.cells cs.toArray 36)).alloc (.cells #[.int .i64 0, .int .i64 0] 26)) :=
  ⟨((Kept.refl No w).alloc _).alloc _, (heap_alloc_old (w.alloc _) _ (by simp)).trans (heap_alloc_new w _), heap_alloc2_new w _ _⟩
theorem keep (h : Jw w cs W) (k : Kept No W W') : Jw w cs W' := ⟨h.hk.trans k (fun _ e => .inl e), k.at' h.hb (fun e => e), k.at' h.hr (fun e => e)⟩
theorem cell (h : Jw w cs W) {j : Nat} {v : Value} (hj : cs[j]? = some v) : W.cell? ⟨w.heap.size, j, none⟩ = some v := by simp [World.cell?, h.hb, hj]
theorem ld (h : Jw w cs W) (hl : cs.length = 21) : (Instr.loadAt 36 (.pointer (some ⟨w.heap.size, 0, none⟩))).run Tryd.prog W = .ok (.agg cs.toArray) W := ldPn h.hb hl
theorem ans (h : Jw w cs W) : W.cell? ⟨w.heap.size + 1, 0, none⟩ = some (.int .i64 0) ∧ W.cell? ⟨w.heap.size + 1, 1, none⟩ = some (.int .i64 0) ∧ W.frozen? ⟨w.heap.size + 1, 0, none⟩ = false ∧ W.frozen? ⟨w.heap.size + 1, 1, none⟩ = false := by
  simp [World.cell?, World.frozen?, h.hr]
theorem fin (h : Jw w cs W) (x y : Int) : ((W.setCell ⟨w.heap.size + 1, 0, none⟩ (.int .i64 x)).setCell ⟨w.heap.size + 1, 1, none⟩ (.int .i64 y)).heap[w.heap.size + 1]? = some (.cells #[.int .i64 x, .int .i64 y] 26) ∧ Kept No w ((W.setCell ⟨w.heap.size + 1, 0, none⟩ (.int .i64 x)).setCell ⟨w.heap.size + 1, 1, none⟩ (.int .i64 y)) :=
  ⟨by simp [World.setCell, Array.getElem?_modify, h.hr], (h.hk.setCell (.inr (by simp)) _).setCell (.inr (by simp)) _⟩
end Jw

set_option maxHeartbeats 4000000 in
theorem judge_any (cs : List Value) (a : Option Addr) (n c : Nat) (h : Int) (t : Nat → Int) (hl : cs.length = 21) (h8 : cs[8]? = some (.slice a n c)) (h9 : cs[9]? = some (.int .i64 h)) (ht : ∀ j, j < 8 → cs[10 + j]? = some (.int .i64 (t j))) (k p : Int) (busy : Bool) (w : World) :
    Calls Tryd.prog 5 #[.agg cs.toArray, .int .i64 k, .int .i64 p, .bool busy] w fun e w' => e = .returned (vd (jdA n h t k p busy) (jdP n h t k p busy)) ∧ Kept No w w' := by
  have q1 := fun W => isKind_any k W
  have q2 := fun W => isThere_any cs a n c h8 p W
  have q3 := fun W => handlerOf_any cs a n c h hl h8 h9 W
  have q4 := fun x W => handled_any x (hOf n h) busy W
  have q5 := fun x W => aimed_any x p (hOf n h) W
  have HL := hid hl
  have HT := hid ht
  obtain ⟨w2, e2⟩ : ∃ w2, w2 = (w.alloc (.cells cs.toArray 36)).alloc (.cells #[.int .i64 0, .int .i64 0] 26) := ⟨_, rfl⟩
  have J2 : Hid (Jw w cs w2) := by rw [e2]; exact Jw.mk0 w cs
  have LD2 := hid (J2.out.ld hl)
  clear h8 h9 hl ht
  cases hb : inB k 1 7
  · rw [hb] at q1
    rw [show jdA n h t k p busy = 0 by simp [jdA, hb], show jdP n h t k p busy = 0 by simp [jdP, hb]]
    clear hb
    go_enter Tryd.func5, Tryd.ntmps5
    go_upto_region 1 with fail
    rw [← e2]
    clear e2
    obtain ⟨c0, c1, f0, f1⟩ := J2.out.ans
    go_wp2_with (first
      | (go_at_call 16; refine (q1 _).mono ?_; rintro e w' ⟨rfl, e1⟩; subst e1))
    refine bodyPost_ret (results_cell_row rfl _ _ (w.heap.size + 1) 26 _ _ _ rfl (J2.out.fin _ _).1 Tryd.underlying26 rfl Tryd.info2) rfl ?_
    exact ⟨rfl, (J2.out.fin _ _).2⟩
  rw [hb] at q1
  cases hb2 : inB p 1 n
  · rw [hb2] at q2
    rw [show jdA n h t k p busy = 0 by simp [jdA, hb2], show jdP n h t k p busy = 0 by simp [jdP, hb2]]
    clear hb hb2
    go_enter Tryd.func5, Tryd.ntmps5
    go_upto_region 1 with fail
    rw [← e2]
    clear e2
    go_wp2_with (first
      | (go_at_call 16; refine (q1 _).mono ?_; rintro e w' ⟨rfl, e1⟩; obtain rfl := e1.symm; clear e1)
      | (refine l_take 15 rfl rfl (er_ld _ _ rfl _ _ rfl LD2.out) ?_)
      | (go_at_call 17; refine (q2 _).mono ?_; rintro e w3 ⟨rfl, k3⟩; have J3 : Hid (Jw w cs w3) := J2.out.keep k3; obtain ⟨c0, c1, f0, f1⟩ := J3.out.ans; clear k3))
    refine bodyPost_ret (results_cell_row rfl _ _ (w.heap.size + 1) 26 _ _ _ rfl (J3.out.fin _ _).1 Tryd.underlying26 rfl Tryd.info2) rfl ?_
    exact ⟨rfl, (J3.out.fin _ _).2⟩
  rw [hb2] at q2
  by_cases hp : p = hOf n h
  · rw [show jdA n h t k p busy = 4 by simp [jdA, hb, hb2, ← hp], show jdP n h t k p busy = 0 by simp [jdP, ← hp]]
    clear hb hb2
    rw [← hp] at q3
    clear hp q4 q5
    go_enter Tryd.func5, Tryd.ntmps5
    go_upto_region 1 with fail
    rw [← e2]
    clear e2
    go_wp2_with (first
      | (go_at_call 16; refine (q1 _).mono ?_; rintro e w' ⟨rfl, e1⟩; obtain rfl := e1.symm; clear e1)
      | (refine l_take 15 rfl rfl (er_ld _ _ rfl _ _ rfl LD2.out) ?_)
      | (go_at_call 17; refine (q2 _).mono ?_; rintro e w3 ⟨rfl, k3⟩; have J3 : Hid (Jw w cs w3) := J2.out.keep k3; have LD3 := hid (J3.out.ld HL.out); clear k3)
      | (refine l_take 21 rfl rfl (er_ld _ _ rfl _ _ rfl LD3.out) ?_)
      | (go_at_call 18; refine (q3 _).mono ?_; rintro e w4 ⟨rfl, k4⟩; have J4 : Hid (Jw w cs w4) := J3.out.keep k4; obtain ⟨c0, c1, f0, f1⟩ := J4.out.ans; clear k4))
    refine bodyPost_ret (results_cell_row rfl _ _ (w.heap.size + 1) 26 _ _ _ rfl (J4.out.fin _ _).1 Tryd.underlying26 rfl Tryd.info2) rfl ?_
    exact ⟨rfl, (J4.out.fin _ _).2⟩
  have hk1 : 1 ≤ k ∧ k ≤ 7 := by simp [inB] at hb; exact hb
  obtain ⟨j, ej⟩ : ∃ j : Nat, k = j := ⟨k.toNat, by omega⟩
  subst ej
  have hj8 : j < 8 := by omega
  obtain ⟨A, eA⟩ : ∃ A, A = if hdl (t j) (hOf n h) busy = 0 ∧ (j : Int) = 4 then 1 else hdl (t j) (hOf n h) busy := ⟨_, rfl⟩
  rw [show jdA n h t j p busy = A by rw [eA]; simp [jdA, hb, hb2, hp], show jdP n h t j p busy = aimP A p (hOf n h) by rw [eA]; simp [jdP, jdA, hb, hb2, hp]]
  have hp' : (p == hOf n h) = false := by simp [hp]
  have TJ := hid (HT.out j hj8)
  have q4' := q4 (t j)
  have q5' := q5 A
  clear hb hb2 hp q4 q5 HT hk1
  generalize hdl (t j) (hOf n h) busy = z at *
  generalize aimP A p (hOf n h) = y at *
  generalize hOf n h = H at *
  generalize t j = tj at *
  by_cases hz : z = 0
  · subst hz
    by_cases hj4 : j = 4
    · subst hj4
      have eA' : A = 1 := by rw [eA, if_pos ⟨rfl, rfl⟩]
      subst eA'
      clear eA
      go_enter Tryd.func5, Tryd.ntmps5
      go_upto_region 1 with fail
      rw [← e2]
      clear e2
      go_wp2_with (first
        | (go_at_call 16; refine (q1 _).mono ?_; rintro e w' ⟨rfl, e1⟩; obtain rfl := e1.symm; clear e1)
        | (refine l_take 15 rfl rfl (er_ld _ _ rfl _ _ rfl LD2.out) ?_)
        | (go_at_call 17; refine (q2 _).mono ?_; rintro e w3 ⟨rfl, k3⟩; have J3 : Hid (Jw w cs w3) := J2.out.keep k3; have LD3 := hid (J3.out.ld HL.out); clear k3)
        | (refine l_take 21 rfl rfl (er_ld _ _ rfl _ _ rfl LD3.out) ?_)
        | (go_at_call 18; refine (q3 _).mono ?_; rintro e w4 ⟨rfl, k4⟩; have J4 : Hid (Jw w cs w4) := J3.out.keep k4; have c4 := J4.out.cell TJ.out; clear k4)
        | (go_at_call 19; refine (q4' _).mono ?_; rintro e w5 ⟨rfl, e1⟩; obtain rfl := e1.symm; clear e1)
        | (go_at_call 20; refine (q5' _).mono ?_; rintro e w6 ⟨rfl, k6⟩; have J6 : Hid (Jw w cs w6) := J4.out.keep k6; obtain ⟨c0, c1, f0, f1⟩ := J6.out.ans; clear k6; unfold vd))
      refine bodyPost_ret (results_cell_row rfl _ _ (w.heap.size + 1) 26 _ _ _ rfl (J6.out.fin _ _).1 Tryd.underlying26 rfl Tryd.info2) rfl ?_
      exact ⟨rfl, (J6.out.fin _ _).2⟩
    · have eA' : A = 0 := by rw [eA, if_neg (by omega)]
      subst eA'
      have hj4' : ((j : Int) == 4) = false := by simp; omega
      clear eA hj4
      go_enter Tryd.func5, Tryd.ntmps5
      go_upto_region 1 with fail
      rw [← e2]
      clear e2
      go_wp2_with (first
        | (go_at_call 16; refine (q1 _).mono ?_; rintro e w' ⟨rfl, e1⟩; obtain rfl := e1.symm; clear e1)
        | (refine l_take 15 rfl rfl (er_ld _ _ rfl _ _ rfl LD2.out) ?_)
        | (go_at_call 17; refine (q2 _).mono ?_; rintro e w3 ⟨rfl, k3⟩; have J3 : Hid (Jw w cs w3) := J2.out.keep k3; have LD3 := hid (J3.out.ld HL.out); clear k3)
        | (refine l_take 21 rfl rfl (er_ld _ _ rfl _ _ rfl LD3.out) ?_)
        | (go_at_call 18; refine (q3 _).mono ?_; rintro e w4 ⟨rfl, k4⟩; have J4 : Hid (Jw w cs w4) := J3.out.keep k4; have c4 := J4.out.cell TJ.out; clear k4)
        | (go_at_call 19; refine (q4' _).mono ?_; rintro e w5 ⟨rfl, e1⟩; obtain rfl := e1.symm; clear e1)
        | (go_at_call 20; refine (q5' _).mono ?_; rintro e w6 ⟨rfl, k6⟩; have J6 : Hid (Jw w cs w6) := J4.out.keep k6; obtain ⟨c0, c1, f0, f1⟩ := J6.out.ans; clear k6; unfold vd))
      refine bodyPost_ret (results_cell_row rfl _ _ (w.heap.size + 1) 26 _ _ _ rfl (J6.out.fin _ _).1 Tryd.underlying26 rfl Tryd.info2) rfl ?_
      exact ⟨rfl, (J6.out.fin _ _).2⟩
  · have eA' : A = z := by rw [eA, if_neg (by omega)]
    subst eA'
    have hz' : (A == 0) = false := by simp [hz]
    clear eA hz
    go_enter Tryd.func5, Tryd.ntmps5
    go_upto_region 1 with fail
    rw [← e2]
    clear e2
    go_wp2_with (first
      | (go_at_call 16; refine (q1 _).mono ?_; rintro e w' ⟨rfl, e1⟩; obtain rfl := e1.symm; clear e1)
      | (refine l_take 15 rfl rfl (er_ld _ _ rfl _ _ rfl LD2.out) ?_)
      | (go_at_call 17; refine (q2 _).mono ?_; rintro e w3 ⟨rfl, k3⟩; have J3 : Hid (Jw w cs w3) := J2.out.keep k3; have LD3 := hid (J3.out.ld HL.out); clear k3)
      | (refine l_take 21 rfl rfl (er_ld _ _ rfl _ _ rfl LD3.out) ?_)
      | (go_at_call 18; refine (q3 _).mono ?_; rintro e w4 ⟨rfl, k4⟩; have J4 : Hid (Jw w cs w4) := J3.out.keep k4; have c4 := J4.out.cell TJ.out; clear k4)
      | (go_at_call 19; refine (q4' _).mono ?_; rintro e w5 ⟨rfl, e1⟩; obtain rfl := e1.symm; clear e1)
      | (go_at_call 20; refine (q5' _).mono ?_; rintro e w6 ⟨rfl, k6⟩; have J6 : Hid (Jw w cs w6) := J4.out.keep k6; obtain ⟨c0, c1, f0, f1⟩ := J6.out.ans; clear k6; unfold vd))
    refine bodyPost_ret (results_cell_row rfl _ _ (w.heap.size + 1) 26 _ _ _ rfl (J6.out.fin _ _).1 Tryd.underlying26 rfl Tryd.info2) rfl ?_
    exact ⟨rfl, (J6.out.fin _ _).2⟩
end Go.Proofs.YtledndpcceejpaaDoor
