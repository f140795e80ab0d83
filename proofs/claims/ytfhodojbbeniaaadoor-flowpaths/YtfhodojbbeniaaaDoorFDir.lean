/-
  Direct.
-/
import Derived.Test.YtfhodojbbeniaaaDoorFRea
namespace Go.Proofs.YtfhodojbbeniaaaDoor
open Go.RowKit Go.Shelf
attribute [local go_sem] Oper.semAt_some
set_option linter.unusedVariables false
set_option maxRecDepth 100000

/-- the same, and no panic -/
def calm (Q : Exit → Act → World → Prop) : Exit → Act → World → Prop
  | .panic _, _, _ => False
  | .normal, a, w => Q .normal a w
  | .ret, a, w => Q .ret a w
  | .exit i, a, w => Q (.exit i) a w
  | .goto i, a, w => Q (.goto i) a w
  | .outgrown, a, w => Q .outgrown a w
theorem calm_imp (Q : Exit → Act → World → Prop) : ∀ e a w, calm Q e a w → Q e a w := by
  intro e a w h
  cases e with
  | panic c => exact h.elim
  | normal => exact h
  | ret => exact h
  | exit i => exact h
  | goto i => exact h
  | outgrown => exact h

/-- row i: whether there is a road -/
def nrM (E : List (Nat × Nat)) (n i : Nat) : List Bool := (List.range n).map (nearB E i)
theorem nrM_len (E : List (Nat × Nat)) (n i : Nat) : (nrM E n i).length = n := by simp [nrM]
theorem nrM_T {E : List (Nat × Nat)} {n i j : Nat} (hj : j < n) : isT (nrM E n i) j = nearB E i j := by
  unfold isT nrM; simp [hj]
theorem nrM_nil (n i : Nat) : nrM [] n i = List.replicate n false := by
  unfold nrM
  apply List.ext_getElem?
  intro j
  by_cases hj : j < n
  · simp [hj, nearB]
  · simp [show n ≤ j by omega]
theorem nrM_app {E : List (Nat × Nat)} {n x y : Nat} (hy : y < n) : nrM (E ++ [(x, y)]) n = fun i => if i = x then (nrM E n x).set y true else nrM E n i := by
  funext i
  have key : ∀ j, nearB (E ++ [(x, y)]) i j = (nearB E i j || (decide (i = x) && decide (j = y))) := fun j => by
    unfold nearB
    rw [Bool.eq_iff_iff]
    simp
  by_cases e : i = x
  · subst e
    simp only [if_pos]
    apply List.ext_getElem?
    intro j
    by_cases hj : j < n
    · rw [List.getElem?_set]
      by_cases e2 : y = j
      · subst e2
        simp [nrM, hj, key]
      · simp [nrM, hj, key, e2, show ¬ j = y from fun h => e2 h.symm]
    · rw [List.getElem?_eq_none (by rw [nrM_len]; omega), List.getElem?_eq_none (by rw [List.length_set, nrM_len]; omega)]
  · simp only [if_neg e]
    unfold nrM
    apply List.map_congr_left
    intro j _
    rw [key]; simp [e]

def Fd (bx g n : Nat) (V : Nat → Nat) : Nat → Prop := fun k => k = bx ∨ Fs g n V k
/-- the square behind q roads -/
def DrI (E : List (Nat × Nat)) (bx g B n : Nat) (V : Nat → Nat) : St := fun q W S => S = Fd bx g n V ∧ W.heap[bx]? = some (.cells #[.slice (some ⟨g, 0, none⟩) n n] 28) ∧ Sqm W B g n n V (nrM (E.take q) n) ∧ bx < B ∧ bx ≠ g
theorem DrI.hangs (E : List (Nat × Nat)) (bx g B n : Nat) (V : Nat → Nat) : Hangs (DrI E bx g B n V) := by
  refine ⟨?_, ?_⟩
  · rintro q W S ⟨rfl, hb, h, _⟩ k (rfl | hk)
    · exact heap_lt hb
    · exact h.lt k hk
  · rintro q W W' S ⟨rfl, hb, h, h1⟩ hs hk
    exact ⟨rfl, (hk _ (.inl rfl)).trans hb, h.same (fun k e => hk k (.inr e)), h1⟩

set_option maxHeartbeats 8000000 in
theorem direct_any {F : Nat → Prop} {a0 a1 a2 : Option Addr} {n0 c0 n1 c1 n c : Nat} {ps : List Po} {L : List Ch} (w : World) (h : Rd w F a1 n1 c1 a2 n c n0 ps L) :
    Calls Tryd.prog 5 #[.agg #[.slice a0 n0 c0, .slice a1 n1 c1, .slice a2 n c]] w fun e w' => ∃ B g V, e = .returned (.slice (some ⟨g, 0, none⟩) n0 n0) ∧ Sqm w' B g n0 n0 V (nrM (edg n0 ps L) n0) ∧ w.heap.size ≤ g ∧ Kept No w w' := by
  refine callsIn_wide (n := 9).1 ?_
  refine callsIn_of_wp_marks Tryd.func5 rfl trivial ?_ rfl
  refine wpIn_wide.2 ?_
  refine wp_mono ?_ (calm_imp _)
  simp only [Tryd.ntmps5, List.size_toArray, List.length_cons, List.length_nil, Nat.reduceAdd, Nat.reduceSub, Array.replicate_succ, Array.replicate_zero, List.push_toArray, List.append_toArray, List.nil_append, List.cons_append]
  have hn0 := h.nn
  have hmk := mk_rows (w.alloc (.cells #[.slice a0 n0 c0, .slice a1 n1 c1, .slice a2 n c] 26)) n0 hn0
  rw [World.size_alloc] at hmk
  have k1 : Kept No w (w.alloc (.cells #[.slice a0 n0 c0, .slice a1 n1 c1, .slice a2 n c] 26)) := (Kept.refl No w).alloc _
  have hb1 := alloc_new w (.cells #[.slice a0 n0 c0, .slice a1 n1 c1, .slice a2 n c] 26)
  obtain ⟨w1, hw1⟩ : ∃ w1, w1 = w.alloc (.cells #[.slice a0 n0 c0, .slice a1 n1 c1, .slice a2 n c] 26) := ⟨_, rfl⟩
  have hs1 : w1.heap.size = w.heap.size + 1 := by rw [hw1]; simp
  have hg1 := alloc_new w1 (.cells (List.replicate n0 (.slice none 0 0)).toArray 30)
  rw [hs1] at hg1
  rw [← hw1] at hmk k1 hb1
  obtain ⟨w2, hw2⟩ : ∃ w2, w2 = w1.alloc (.cells (List.replicate n0 (.slice none 0 0)).toArray 30) := ⟨_, rfl⟩
  rw [← hw2] at hmk hg1
  have k2 : Kept No w1 w2 := by rw [hw2]; exact (Kept.refl No w1).alloc _
  have hs2 : w2.heap.size = w.heap.size + 2 := by rw [hw2]; simp [hs1]
  have hg3 := alloc_new w2 (.cells #[.slice (some ⟨w.heap.size + 1, 0, none⟩) n0 n0] 28)
  obtain ⟨w3, hw3⟩ : ∃ w3, w3 = w2.alloc (.cells #[.slice (some ⟨w.heap.size + 1, 0, none⟩) n0 n0] 28) := ⟨_, rfl⟩
  rw [← hw3, hs2] at hg3
  have k3 : Kept No w2 w3 := by rw [hw3]; exact (Kept.refl No w2).alloc _
  have hs3 : w3.heap.size = w.heap.size + 3 := by rw [hw3]; simp [hs2]
  have k13 : Kept No w1 w3 := k2.trans k3 (fun _ h => .inl h)
  have kw3 : Kept No w w3 := k1.trans k13 (fun _ h => .inl h)
  have SM := Sqm.new0 (k3.at' hg1 (fun h => h)) (fun _ => 0) (nrM [] n0)
  rw [hs3] at SM
  have HH : Hid (Kept No w w3 ∧ Sqm w3 (w.heap.size + 3) (w.heap.size + 1) n0 0 (fun _ => 0) (nrM [] n0) ∧ w3.heap.size = w.heap.size + 3 ∧ w2.heap.size = w.heap.size + 2 ∧ w3.heap[w.heap.size]? = some (.cells #[.slice a0 n0 c0, .slice a1 n1 c1, .slice a2 n c] 26) ∧ w3.heap[w.heap.size + 2]? = some (.cells #[.slice (some ⟨w.heap.size + 1, 0, none⟩) n0 n0] 28) ∧ Rd w F a1 n1 c1 a2 n c n0 ps L) := ⟨kw3, SM, hs3, hs2, k13.at' hb1 (fun h => h), hg3, h⟩
  rw [hw1] at hmk
  have hE := edg_ok n0 ps L
  obtain ⟨E, hEe⟩ : ∃ E, E = edg n0 ps L := ⟨_, rfl⟩
  rw [← hEe] at hE ⊢
  have HE : Hid (Eok E n0 ∧ E = edg n0 ps L) := ⟨hE, hEe⟩
  clear h k1 k2 k3 k13 kw3 SM hb1 hg1 hs1 hs3 hg3 hw2 hw1 hE hEe
  go_wp2
  rw [← hw3]
  clear hw3 hmk hs2
  go_loopw [13] (fun y wr => ∃ (j : Nat) (V : Nat → Nat), y = .int .i64 j ∧ j ≤ n0 ∧ Sqm wr (w.heap.size + 3) (w.heap.size + 1) n0 j V (nrM [] n0) ∧ wr.heap[w.heap.size + 2]? = some (.cells #[.slice (some ⟨w.heap.size + 1, 0, none⟩) n0 n0] 28) ∧ wr.heap[w.heap.size]? = some (.cells #[.slice a0 n0 c0, .slice a1 n1 c1, .slice a2 n c] 26) ∧ Kept No w wr ∧ w.heap.size + 3 ≤ wr.heap.size) (fun y _ => n0 - (intOf y).toNat)
  case atStart => exact ⟨0, _, rfl, Nat.zero_le _, HH.out.2.1, HH.out.2.2.2.2.2.1, HH.out.2.2.2.2.1, HH.out.1, by have := HH.out.2.2.1; omega⟩
  case round =>
    obtain ⟨j, V, rfl, hj, hs, hbx, him, hk, hsz⟩ := hrel
    obtain ⟨bx, hbxe⟩ : ∃ bx, bx = w.heap.size + 2 := ⟨_, rfl⟩
    obtain ⟨g, hge⟩ : ∃ g, g = w.heap.size + 1 := ⟨_, rfl⟩
    by_cases hlt : j < n0
    · have hjz : (j : Int) < (n0 : Int) := by omega
      have HR : Hid (Sqm wr (w.heap.size + 3) g n0 j V (nrM [] n0) ∧ wr.heap[bx]? = some (.cells #[.slice (some ⟨g, 0, none⟩) n0 n0] 28) ∧ wr.heap[w.heap.size]? = some (.cells #[.slice a0 n0 c0, .slice a1 n1 c1, .slice a2 n c] 26) ∧ Kept No w wr ∧ w.heap.size + 3 ≤ wr.heap.size ∧ bx = w.heap.size + 2 ∧ g = w.heap.size + 1) := ⟨by rw [hge]; exact hs, by rw [hbxe, hge]; exact hbx, him, hk, hsz, hbxe, hge⟩
      rw [← hbxe, ← hge]
      clear hs hbx him hk hsz hbxe hge
      go_wp2
      refine wp_region_held_drew (S := fun w' => w'.heap[bx]? = some (.cells #[.slice (some ⟨g, 0, none⟩) n0 n0] 28)) (by kernel_rfl) HR.out.2.1 (fun hS => ?_)
      refine d_take 0 16 rfl rfl (by kernel_rfl) (by kernel_rfl) (by kernel_rfl) (fun _ _ _ h => h) rfl (fun w' hw' => er_ldBB _ rfl bx 0 _ rfl (one hw')) hS ?_
      simp only [Act.put, List.setIfInBounds_toArray, List.set_cons_zero, List.set_cons_succ]
      refine d_take 1 17 rfl rfl (by kernel_rfl) (by kernel_rfl) (by kernel_rfl) (fun _ _ _ h => h) rfl (fun w' hw' => er_mv _ rfl (.int .i64 (j : Int)) rfl) hS ?_
      simp only [Act.put, List.setIfInBounds_toArray, List.set_cons_zero, List.set_cons_succ]
      refine d_take 2 18 rfl rfl (by kernel_rfl) (by kernel_rfl) (by kernel_rfl) (fun _ _ _ h => h) rfl (fun w' hw' => er_ldBB _ rfl bx 0 _ rfl (one hw')) hS ?_
      simp only [Act.put, List.setIfInBounds_toArray, List.set_cons_zero, List.set_cons_succ]
      refine d_take 3 19 rfl rfl (by kernel_rfl) (by kernel_rfl) (by kernel_rfl) (fun _ _ _ h => h) rfl (fun w' hw' => er_lenBB _ rfl (some ⟨g, 0, none⟩) n0 n0 rfl) hS ?_
      simp only [Act.put, List.setIfInBounds_toArray, List.set_cons_zero, List.set_cons_succ]
      have hmk := mk_bools wr.drew n0 hn0
      have ka : Kept No wr (wr.drew.alloc (.cells (List.replicate n0 (.bool false)).toArray 4)) := ((Kept.refl No wr).drew).alloc _
      have hSa : (fun w' : World => w'.heap[bx]? = some (.cells #[.slice (some ⟨g, 0, none⟩) n0 n0] 28)) (wr.drew.alloc (.cells (List.replicate n0 (.bool false)).toArray 4)) := ka.at' HR.out.2.1 (fun h => h)
      have hBr := Br.new wr.drew n0
      have hst := HR.out.1.step hlt ka (Nat.le_refl _) HR.out.2.2.2.2.1 (q := wr.heap.size) (by rw [nrM_nil]; exact hBr) (nrM_len _ _ _)
      have hca := (HR.out.1.kept ka (fun _ _ h => h)).cell hlt
      have hfa := fz_blk (HR.out.1.kept ka (fun _ _ h => h)).hd j
      have kb : Kept (fun k => k = g) (wr.drew.alloc (.cells (List.replicate n0 (.bool false)).toArray 4)) ((wr.drew.alloc (.cells (List.replicate n0 (.bool false)).toArray 4)).setCell ⟨g, j, none⟩ (.slice (some ⟨wr.heap.size, 0, none⟩) n0 n0)) := (Kept.refl (fun k => k = g) _).setCell (p := ⟨g, j, none⟩) (.inl rfl) _
      have hSe : (fun w' : World => w'.heap[bx]? = some (.cells #[.slice (some ⟨g, 0, none⟩) n0 n0] 28)) ((wr.drew.alloc (.cells (List.replicate n0 (.bool false)).toArray 4)).setCell ⟨g, j, none⟩ (.slice (some ⟨wr.heap.size, 0, none⟩) n0 n0)) := kb.at' hSa (fun e => by have := HR.out.2.2.2.2.2; omega)
      refine d_make 4 20 (by kernel_rfl) rfl rfl rfl (er_mkB _ rfl (.int .i64 n0) _ rfl hmk) hSa ?_
      simp only [Act.put, List.setIfInBounds_toArray, List.set_cons_zero, List.set_cons_succ]
      refine d_take 5 21 rfl rfl (by kernel_rfl) (by kernel_rfl) (by kernel_rfl) (fun _ _ _ h => h) rfl (fun w' hw' => er_ixBB _ _ rfl g 0 j n0 n0 rfl rfl hlt) hSa ?_
      simp only [Act.put, List.setIfInBounds_toArray, List.set_cons_zero, List.set_cons_succ, Nat.zero_add]
      refine d_turn 6 (by kernel_rfl) rfl rfl rfl (er_stSB _ _ rfl g j _ (.slice (some ⟨wr.heap.size, 0, none⟩) n0 n0) ⟨_, _, _, rfl⟩ rfl rfl hca hfa) hSe ?_
      refine wpAnyH_done (by kernel_rfl) ?_ _
      have HF : Hid (Sqm ((wr.drew.alloc (.cells (List.replicate n0 (.bool false)).toArray 4)).setCell ⟨g, j, none⟩ (.slice (some ⟨wr.heap.size, 0, none⟩) n0 n0)) (w.heap.size + 3) g n0 (j + 1) (fun i => if i = j then wr.heap.size else V i) (nrM [] n0) ∧ ((wr.drew.alloc (.cells (List.replicate n0 (.bool false)).toArray 4)).setCell ⟨g, j, none⟩ (.slice (some ⟨wr.heap.size, 0, none⟩) n0 n0)).heap[bx]? = some (.cells #[.slice (some ⟨g, 0, none⟩) n0 n0] 28) ∧ ((wr.drew.alloc (.cells (List.replicate n0 (.bool false)).toArray 4)).setCell ⟨g, j, none⟩ (.slice (some ⟨wr.heap.size, 0, none⟩) n0 n0)).heap[w.heap.size]? = some (.cells #[.slice a0 n0 c0, .slice a1 n1 c1, .slice a2 n c] 26) ∧ Kept No w ((wr.drew.alloc (.cells (List.replicate n0 (.bool false)).toArray 4)).setCell ⟨g, j, none⟩ (.slice (some ⟨wr.heap.size, 0, none⟩) n0 n0)) ∧ w.heap.size + 3 ≤ ((wr.drew.alloc (.cells (List.replicate n0 (.bool false)).toArray 4)).setCell ⟨g, j, none⟩ (.slice (some ⟨wr.heap.size, 0, none⟩) n0 n0)).heap.size) := by
        have := HR.out.2.2.2.2.2
        refine ⟨hst, hSe, kb.at' (ka.at' HR.out.2.2.1 (fun h => h)) (fun e => by omega), (HR.out.2.2.2.1.trans ka (fun _ h => .inl h)).trans kb (fun k e => .inr (by omega)), ?_⟩
        have := ka.size; have := kb.size; have := HR.out.2.2.2.2.1; omega
      clear hst hSe hSa hca hfa ka kb hBr hmk hS
      generalize ((wr.drew.alloc (.cells (List.replicate n0 (.bool false)).toArray 4)).setCell ⟨g, j, none⟩ (.slice (some ⟨wr.heap.size, 0, none⟩) n0 n0)) = X at *
      go_wp2
      go_roundw
      case rel =>
        obtain ⟨z1, z2, z3, z4, z5⟩ := HF.out
        have e1 := HR.out.2.2.2.2.2.1
        have e2 := HR.out.2.2.2.2.2.2
        exact ⟨j + 1, _, by go_num, by omega, z1, z2, z3, z4, z5⟩
      case measure => simp [intOf]; omega
    · have hje : j = n0 := by omega
      subst hje
      have cJ := joined_gives (a0 := a0) (n0 := j) (c0 := c0) hk HH.out.2.2.2.2.2.2.qs HH.out.2.2.2.2.2.2.cs HH.out.2.2.2.2.2.2.ds hn0
      rw [← HE.out.2] at cJ
      obtain ⟨x0, x1, x2⟩ := three him
      have HR : Hid (Sqm wr (w.heap.size + 3) g j j V (nrM [] j) ∧ wr.heap[bx]? = some (.cells #[.slice (some ⟨g, 0, none⟩) j j] 28) ∧ Kept No w wr ∧ w.heap.size + 3 ≤ wr.heap.size ∧ bx = w.heap.size + 2 ∧ g = w.heap.size + 1) := ⟨by rw [hge]; exact hs, by rw [hbxe, hge]; exact hbx, hk, hsz, hbxe, hge⟩
      have hjz : ¬ (j : Int) < (j : Int) := by omega
      rw [← hbxe, ← hge]
      clear hs hbx him hk hsz hbxe hge
      go_wp2_with (go_at_call 10; refine cJ.mono ?_; rintro e w4 ⟨l2, rfl, k4, hgv, hl4⟩; clear cJ x0 x1 x2)
      refine (wpIn_wide (n := 9)).1 ?_
      have hs4 := k4.size
      have hI0 : DrI E bx g (w.heap.size + 3) j V 0 w4 (Fd bx g j V) := ⟨rfl, k4.at' HR.out.2.1 (fun h => h), HR.out.1.kept k4 (fun _ _ h => h), by have := HR.out.2.2.2.2.1; omega, by have := HR.out.2.2.2.2; omega⟩
      refine range_list (n := 9) (gf := 18) (lb := l2) rfl (fun args w => rfl) (el := elE E) (fun _ => rfl) hgv ?dl (Kept.refl _ _)
        (DrI E bx g (w.heap.size + 3) j V) (fun c q W S => False) (DrI.hangs _ _ _ _ _ _) (fun _ => ⟨fun q W S hi => hi.elim, fun q W W' S hi hs hk => hi⟩) (S0 := Fd bx g j V) hI0
        ?gs
        (fun q => { tmps := #[.agg #[.slice a0 j c0, .slice a1 n1 c1, .slice a2 n c], .pointer (some ⟨w.heap.size, 0, none⟩), .slice none 0 0, .pointer (some ⟨bx, 0, none⟩), u4, .int .i64 (((E.getD q (0, 0)).1 : Nat) : Int), .int .i64 (((E.getD q (0, 0)).2 : Nat) : Int), .pointer (some ⟨w.heap.size, 0, none⟩), .slice a0 j c0, .int .i64 j, .slice (some ⟨g, 0, none⟩) j j, .slice (some ⟨g, 0, none⟩) j j, .int .i64 j, .int .i64 j, .bool false, u15, u16, u17, u18, u19, u20, u21, u22, .agg #[.slice a0 j c0, .slice a1 n1 c1, .slice a2 n c], .func (.func 18) #[] l2, .int .i64 (((E.getD q (0, 0)).1 : Nat) : Int), .int .i64 (((E.getD q (0, 0)).2 : Nat) : Int), undef, undef, undef, undef, undef, undef, undef], defers := [] }) ?assign ?body ?done ?stop
      case dl =>
        have := HR.out.2.2.2.1
        rintro k (h | h) <;> omega
      case gs =>
        have h1 := HR.out.2.2.2.1
        have h2 := HR.out.2.2.2.2
        have hlt := HR.out.1.lt
        rintro k (h | h | ⟨i, hi, h⟩)
        · rintro (h' | h') <;> omega
        · rintro (h' | h') <;> omega
        · have h3 := HR.out.1.new i hi
          have h4 := hlt k (.inr ⟨i, hi, h⟩)
          rintro (h' | h') <;> omega
      case assign =>
        intro l q W K hq hK
        unfold elE
        generalize E.getD q (0, 0) = p at *
        clear hq
        gi_wp2
        exact hK
      case body =>
        rintro l q W S ⟨rfl, hbx, hsq, hbB, hne⟩ hq
        have hpq : E[q]? = some (E.getD q (0, 0)) := by simp [List.getD, hq]
        have hok := HE.out.1 _ (List.mem_of_getElem? hpq)
        have htk : E.take (q + 1) = E.take q ++ [E.getD q (0, 0)] := by rw [take_succ_get hpq]
        generalize E.getD q (0, 0) = p at *
        obtain ⟨x, y⟩ := p
        obtain ⟨hx, hy⟩ := hok
        simp only at hx hy
        have c0' := one hbx
        have c1' := hsq.cell hx
        rw [if_pos hx] at c1'
        have hrow := hsq.row x hx
        have c2' := hrow.1.cell (j := y) (by rw [hrow.2]; exact hy)
        have f2' := hrow.1.fz y
        have hput := hsq.put (y := y) hx true
        rw [← nrM_app hy, ← htk] at hput
        have kq : Kept (fun k => k = V x) W (W.setCell ⟨V x, y, none⟩ (.bool true)) := (Kept.refl (fun k => k = V x) W).setCell (p := ⟨V x, y, none⟩) (.inl rfl) _
        have HF : Hid (Kept (Fd bx g j V) W (W.setCell ⟨V x, y, none⟩ (.bool true)) ∧ DrI E bx g (w.heap.size + 3) j V (q + 1) (W.setCell ⟨V x, y, none⟩ (.bool true)) (Fd bx g j V)) := ⟨kq.mono (fun k e => .inr (.inr ⟨x, hx, e⟩)), rfl, kq.at' hbx (fun e => by have := hsq.new x hx; omega), hput, hbB, hne⟩
        have hxz : (x : Int) < (j : Int) := by omega
        have hyz : (y : Int) < (j : Int) := by omega
        clear hput kq hrow hsq hbx htk hpq
        dsimp only
        gi_wp2
        exact ⟨_, HF.out.1, More.refl _ _, HF.out.2⟩
      case done =>
        rintro D W S' hkk hm ⟨rfl, hbx, hsq, hbB, hne⟩ hD1 hD2 hD3
        rw [List.take_of_length_le (Nat.le_refl _)] at hsq
        have c0' := one hbx
        have kw : Kept No w W := (HR.out.2.2.1.trans k4 (fun _ h => .inl h)).trans hkk (fun k e => by
          have h2 := HR.out.2.2.2.2
          rcases e with e | e | ⟨i, hi, e⟩
          · exact .inr (by omega)
          · exact .inr (by omega)
          · have := HR.out.1.new i hi; exact .inr (by omega))
        have HF : Hid (Sqm W (w.heap.size + 3) g j j V (nrM E j) ∧ Kept No w W ∧ W.heap[D]? = some (.deferred (some [])) ∧ ¬ Fd bx g j V D ∧ w.heap.size ≤ D ∧ w.heap.size ≤ g) := ⟨hsq, kw, hD3, hD1, by have := HR.out.2.2.2.1; omega, by have := HR.out.2.2.2.2.2; omega⟩
        clear hsq kw hD3 hD1 hkk hm hgv hI0 hbx
        go_wp2
        refine ⟨by simp, .inl ⟨_, _, rfl, run_takeDeferred HF.out.2.2.1, ?_⟩⟩
        have kp : Kept (fun k => k = D) W (W.putObj D (.deferred none)) := kept_put (S := fun k => k = D) _ rfl
        refine ⟨_, results_tmp rfl _ _ _, w.heap.size + 3, g, V, rfl, HF.out.1.kept kp (fun k hk e => HF.out.2.2.2.1 (.inr (e ▸ hk))), HF.out.2.2.2.2.2, HF.out.2.1.trans kp (fun k e => .inr (by have := HF.out.2.2.2.2.1; omega))⟩
      case stop =>
        rintro D c q W S' hk hm h
        exact h.elim
end Go.Proofs.YtfhodojbbeniaaaDoor
