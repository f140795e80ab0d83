/-
  One text: RWor, RJoi, RAg, RCmp.
-/
import Derived.Test.YtnmhcnppdhdhfaaGreatDoorG38
namespace Go.Proofs.YtnmhcnppdhdhfaaGreatDoor
open Go.RowKit Plain
set_option linter.unusedVariables false
set_option linter.unusedSimpArgs false
set_option maxRecDepth 100000

/-- a list of numbers of one's own -/
def Nm (w : World) (g n : Nat) (f : Nat → Int) : Prop :=
  (∃ cs, w.heap[g]? = some (.cells cs 3 (0, 0))) ∧ ∀ i, i < n → w.cell? ⟨g, i, none⟩ = some (.int .i64 (f i))
theorem Nm.fz {w : World} {g n : Nat} {f : Nat → Int} (h : Nm w g n f) (x : Nat) : w.frozen? ⟨g, x, none⟩ = false := by
  obtain ⟨cs, hc⟩ := h.1
  simp [World.frozen?, hc]
theorem Nm.lt {w : World} {g n : Nat} {f : Nat → Int} (h : Nm w g n f) : g < w.heap.size := by
  obtain ⟨cs, hc⟩ := h.1
  exact heap_lt hc
theorem Nm.kept {G : Nat → Prop} {w w' : World} {g n : Nat} {f : Nat → Int} (h : Nm w g n f) (K : Kept G w w') (hg : ¬ G g) : Nm w' g n f :=
  ⟨by obtain ⟨cs, hc⟩ := h.1; exact ⟨cs, K.at' hc hg⟩, fun i hi => K.cell (h.2 i hi) hg⟩
theorem Nm.put {w : World} {g n : Nat} {f : Nat → Int} (h : Nm w g n f) (j : Nat) (v : Int) : Nm (w.setCell ⟨g, j, none⟩ (.int .i64 v)) g n (fun a => if a = j then v else f a) := by
  obtain ⟨cs, hc⟩ := h.1
  refine ⟨⟨_, set_blkG hc _ _⟩, fun a ha => ?_⟩
  rw [cell_setG (h.2 a ha)]
  show some (if a = j then _ else _) = some (Value.int .i64 (if a = j then v else f a))
  by_cases e : a = j
  · rw [if_pos e, if_pos e]
  · rw [if_neg e, if_neg e]
theorem Nm.congr {w : World} {g n : Nat} {f f' : Nat → Int} (h : Nm w g n f) (hf : ∀ i, i < n → f i = f' i) : Nm w g n f' := ⟨h.1, fun i hi => by rw [← hf i hi]; exact h.2 i hi⟩
def mkN (n : Nat) (W : World) : World := W.alloc (.cells (madeCells (Value.int .i64 0).cells (n * 1)) 3)
theorem mkN_run (n : Nat) (hn : n ≤ 70000) (W : World) : (Instr.makeSlice 27 (.int .i64 n) (.int .i64 n)).run Tryz.prog W = .ok (.slice (some ⟨W.heap.size, 0, none⟩) n n) (mkN n W) := by
  obtain ⟨i0, hi, hz0, hz1, hz2⟩ := info_parts Tryz.infoI
  have hr := run_make (P := Tryz.prog) W 27 3 i0 _ Tryz.underlying27 hi hz0 .i64 .i64 n n (by omega) (Int.le_refl _) (by rw [hz2]; omega) (by omega)
  simp only [Int.toNat_natCast] at hr
  rw [hz1] at hr
  exact hr
theorem mkN_nm (n : Nat) (W : World) : Nm (mkN n W) W.heap.size n (fun _ => 0) := by
  have hb := alloc_newG W (.cells (madeCells (Value.int .i64 0).cells (n * 1)) 3)
  refine ⟨⟨_, hb⟩, fun i hi => ?_⟩
  unfold mkN
  simp only [World.cell?]
  rw [hb]
  have e : (madeCells (Value.int .i64 0).cells (n * 1))[i]? = some (.int .i64 0) := by
    unfold madeCells
    rw [Array.getElem?_map, Array.getElem?_range, if_pos (by omega)]
    show some (#[Value.int .i64 0][i % 1]!) = _
    rw [show i % 1 = 0 by omega]
    rfl
  simpa using e

set_option maxHeartbeats 4000000 in
theorem worst_no (v0 v1 v2 : Value) (p m er : Int) (w : World) (hz : er ≠ 0)
    (hc : Calls Tryz.prog 15 #[.agg #[v0, v1, v2], .int .i64 p] (w.alloc (.cells #[v0, v1, v2] 26)) fun e w' => e = .returned (.tuple #[.int .i64 m, .int .i64 er]) ∧ Kept No (w.alloc (.cells #[v0, v1, v2] 26)) w') :
    Calls Tryz.prog 6 #[.agg #[v0, v1, v2], .int .i64 p] w fun e w' => e = .returned (.tuple #[.slice none 0 0, .int .i64 er]) ∧ Kept No w w' := by
  obtain ⟨K0, HM0⟩ := imb w v0 v1 v2
  obtain ⟨m0, m1, m2, _⟩ := HM0 _ (Kept.refl _ _)
  have HK0 : Hid (Kept No w (w.alloc (.cells #[v0, v1, v2] 26))) := K0
  clear HM0 K0
  go_enter Tryz.func6, Tryz.ntmps6
  go_wp2_with (go_at_call 15; refine hc.mono ?_; rintro e w1 ⟨rfl, k1⟩; have HK1 : Hid (Kept No w w1) := HK0.out.trans k1 (fun _ h => h.elim); clear k1)
  go_ret2
  exact ⟨rfl, HK1.out⟩

/-- the play's answer, by place -/
def wsF (d : Array Wr) (f : Nat → Wr) : Nat → Nat → Int
  | 0 => fun _ => -1
  | s + 1 => fun a => if a = (f s).pl then ((f s).k.worst : Int) else wsF d f s a

theorem er_mul2 {o : Oper} {a : Act} {w : World} (x y : Operand) (ho : o.op = .binOp .mul 3 x y 3) (k l r : Int) (hx : a.eval x = .int .i64 k) (hy : a.eval y = .int .i64 l) (hr : wrap64 (k * l) = r) : (execOp a.eval o).run Tryz.prog w = .ok (.value (.int .i64 r)) w := by
  subst hr
  simp only [execOp, ho, hx, hy]; simp [go_sem, w64i]
theorem er_c_rplay {o : Oper} {a : Act} {w : World} (x0 x1 x2 : Operand) (ts : Array TypeId) (ho : o.op = .call { callee := .value (.func 16), args := #[x0, x1, x2], argTypes := ts }) (v0 v1 v2 : Value) (h0 : a.eval x0 = v0) (h1 : a.eval x1 = v1) (h2 : a.eval x2 = v2) : (execOp a.eval o).run Tryz.prog w = .ok (.enter 16 #[v0, v1, v2]) w := by
  subst h0; subst h1; subst h2
  simp [execOp, ho, go_sem, Act.eval]
theorem er_alWk {o : Oper} {a : Act} {w : World} (ho : o.op = .alloc 63) : (execOp a.eval o).run Tryz.prog w = .ok (.value (.pointer (some ⟨w.heap.size, 0, none⟩))) (w.alloc (.cells #[.int .i64 0, .int .i64 0, .int .i64 0, .int .i64 0, .int .i64 0, .bool false, .int .i64 0, .int .i64 0, .int .i64 0, .int .i64 0, .int .i64 0] 63)) := by
  simp only [execOp, ho, Instr.alloc, newVar]; simp [Value.cells, go_sem]
theorem box_Wk (w : World) (cs : List Value) (hl : cs.length = 11) (h1 : ∀ v ∈ cs, v.oneCell' = true) :
    ∃ w2, (Instr.storeAt 63 (.pointer (some ⟨w.heap.size, 0, none⟩)) (.agg cs.toArray)).run Tryz.prog (w.alloc (.cells #[.int .i64 0, .int .i64 0, .int .i64 0, .int .i64 0, .int .i64 0, .bool false, .int .i64 0, .int .i64 0, .int .i64 0, .int .i64 0, .int .i64 0] 63)) = .ok () w2 ∧
      w2.rangeAt w.heap.size 0 cs ∧ Kept No w w2 := by
  have hb : Bk (w.alloc (.cells #[.int .i64 0, .int .i64 0, .int .i64 0, .int .i64 0, .int .i64 0, .bool false, .int .i64 0, .int .i64 0, .int .i64 0, .int .i64 0, .int .i64 0] 63)) w.heap.size [.int .i64 0, .int .i64 0, .int .i64 0, .int .i64 0, .int .i64 0, .bool false, .int .i64 0, .int .i64 0, .int .i64 0, .int .i64 0, .int .i64 0] 63 := heap_alloc_new w _
  have ht : (w.alloc (.cells #[.int .i64 0, .int .i64 0, .int .i64 0, .int .i64 0, .int .i64 0, .bool false, .int .i64 0, .int .i64 0, .int .i64 0, .int .i64 0, .int .i64 0] 63)).there w.heap.size 0 11 := by
    intro j hj
    rw [Nat.zero_add]
    refine ⟨?_, hb.fz j⟩
    obtain ⟨v, hv⟩ : ∃ v, ([.int .i64 0, .int .i64 0, .int .i64 0, .int .i64 0, .int .i64 0, .bool false, .int .i64 0, .int .i64 0, .int .i64 0, .int .i64 0, .int .i64 0] : List Value)[j]? = some v := ⟨_, List.getElem?_eq_getElem (by simpa using hj)⟩
    rw [hb.cell hv]; rfl
  refine ⟨(w.alloc (.cells #[.int .i64 0, .int .i64 0, .int .i64 0, .int .i64 0, .int .i64 0, .bool false, .int .i64 0, .int .i64 0, .int .i64 0, .int .i64 0, .int .i64 0] 63)).setCells w.heap.size 0 cs, ?_, ?_, ?_⟩
  · exact run_storeAt_mid _ w.heap.size 0 _ cs.toArray (by simpa [hl] using ht) (by rw [sizeW]; simp [hl]) (all_oneCell_toArray h1)
  · exact World.rangeAt_setCells_same _ _ _ _ (by rw [hl]; exact ht)
  · exact setCells_kept _ _ _ _ _ ((Kept.refl No w).alloc _) (Nat.le_refl _)
theorem ln_range {w : World} {g N i : Nat} {f : Nat → Wr} (h : Ln w g N f) (hi : i < N) : w.rangeAt g (i * 11) (pw (f i)) := fun j v hv => by
  have hl : j < (pw (f i)).length := (List.getElem?_eq_some_iff.1 hv).1
  have hj : j < 11 := by simpa [pw] using hl
  have e := pw_at (f i) j hj
  rw [List.getElem!_eq_getElem?_getD, hv] at e
  rw [h.2 i j hi hj]
  exact congrArg some e.symm
theorem pw_ones (v : Wr) : ∀ u ∈ pw v, u.oneCell' = true := by
  intro u hu
  simp [pw] at hu
  rcases hu with rfl | rfl | rfl | rfl | rfl | rfl | rfl | rfl | rfl | rfl | rfl <;> rfl
theorem pyd_pl {o : Nat → Bool} {E n g s : Nat} {xs : List Prc} {w w' : World} {d : Array Wr} {f : Nat → Wr} (h : Pyd o E n xs w w' g s d f) {j : Nat} (hj : j < n) : (f j).pl < xs.length := by
  obtain ⟨k, e⟩ := h.at' j
  obtain ⟨i, hi, e2⟩ := line_at h.pm (i := j) (by rw [h.sz]; exact hj)
  rw [e, e2]
  exact hi

set_option maxHeartbeats 8000000 in
theorem worst_yes {F : Nat → Prop} {a0 : Option Addr} {n0 c0 : Nat} (v1 v2 : Value) (ps : List Pn) (w : World) (hg : Gl w) (h : Ls 21 elPn w F a0 n0 c0 ps) (hF : ∀ k, F k → k < w.heap.size) (p m : Nat) (hp1 : 1 ≤ p) (hp2 : p ≤ n0) (hm : 1 ≤ m) (hm2 : m ≤ 1048576) (hn64 : (ps.getD (p - 1) dPn).procs.length ≤ 64)
    (hc : ∀ W, Kept No w W → Calls Tryz.prog 15 #[.agg #[.slice a0 n0 c0, v1, v2], .int .i64 (p : Int)] W fun e w' => e = .returned (.tuple #[.int .i64 (m : Int), .int .i64 0]) ∧ Kept No W w')
    (o : Nat → Bool) (hpl : ∀ W, Kept No w W → Calls Tryz.prog 16 #[.agg #[.slice a0 n0 c0, v1, v2], .int .i64 (p : Int), .int .i64 ((2 * m : Nat) : Int)] W fun e w' => ∃ g s d f, e = .returned (.slice (some ⟨g, 0, none⟩) s (ps.getD (p - 1) dPn).procs.length) ∧ Pyd o (2 * m) (ps.getD (p - 1) dPn).procs.length (ps.getD (p - 1) dPn).procs W w' g s d f) :
    Calls Tryz.prog 6 #[.agg #[.slice a0 n0 c0, v1, v2], .int .i64 (p : Int)] w fun e w' => ∃ gl g s d f W w2, e = .returned (.tuple #[.slice (some ⟨gl, 0, none⟩) (ps.getD (p - 1) dPn).procs.length (ps.getD (p - 1) dPn).procs.length, .int .i64 0]) ∧ Pyd o (2 * m) (ps.getD (p - 1) dPn).procs.length (ps.getD (p - 1) dPn).procs W w2 g s d f ∧ Nm w' gl (ps.getD (p - 1) dPn).procs.length (wsF d f s) ∧ w.heap.size ≤ gl ∧ Kept No w w' := by
  obtain ⟨K0, HM0⟩ := imb w (.slice a0 n0 c0) v1 v2
  obtain ⟨m0, m1, m2, _⟩ := HM0 _ (Kept.refl _ _)
  have HM : Hid (∀ W, Kept No (w.alloc (.cells #[.slice a0 n0 c0, v1, v2] 26)) W → W.cell? ⟨w.heap.size, 0, none⟩ = some (.slice a0 n0 c0) ∧ W.cell? ⟨w.heap.size, 1, none⟩ = some v1 ∧ W.cell? ⟨w.heap.size, 2, none⟩ = some v2 ∧ Kept No w W) := HM0
  have cm := hc _ K0
  have HPL : Hid (∀ W, Kept No w W → Calls Tryz.prog 16 #[.agg #[.slice a0 n0 c0, v1, v2], .int .i64 (p : Int), .int .i64 ((2 * m : Nat) : Int)] W fun e w' => ∃ g s d f, e = .returned (.slice (some ⟨g, 0, none⟩) s (ps.getD (p - 1) dPn).procs.length) ∧ Pyd o (2 * m) (ps.getD (p - 1) dPn).procs.length (ps.getD (p - 1) dPn).procs W w' g s d f) := hpl
  have hlen := h.len
  have hmax := h.max
  have hcap := h.cap
  have hx : ps[p - 1]? = some (ps.getD (p - 1) dPn) := by rw [List.getD, List.getElem?_eq_getElem (by omega)]; rfl
  obtain ⟨b, o', cs, rfl, hb, hl, hr, hPn⟩ := h.at' _ _ hx
  generalize hy : ps.getD (p - 1) dPn = y at *
  obtain ⟨b0, n0', k0, b1, n1', k1, b2, n2, k2, b3, n3, k3, b4, n4, k4, b5, n5, k5, he, _, _, hL, _⟩ := hPn.sl
  have hn2 := hL.len
  have H8 : Hid (w.cell? ⟨b, o' + (p - 1) * 21 + 8, none⟩ = some (.slice b2 n2 k2)) := hr 8 _ (by rw [he]; rfl)
  have hsub : wrap64 ((p : Int) - 1) = ((p - 1 : Nat) : Int) := by rw [← w64i, IntWalk.i64_in _ ⟨by omega, by omega⟩]; omega
  clear HM0 K0 hc hpl hL he hPn hr hx h hb hl
  go_enter Tryz.func6, Tryz.ntmps6
  go_upto_region 4 with (go_at_call 15; refine cm.mono ?_; rintro e w1 ⟨rfl, k1⟩; obtain ⟨q0, q1, q2, K⟩ := HM.out _ k1; have HK1 : Hid (Kept No (w.alloc (.cells #[.slice (some ⟨b, o', none⟩) n0 c0, v1, v2] 26)) w1) := k1; clear k1)
  have c8 := K.cell H8.out (fun h => h)
  have hmk := mkN_run n2 (by omega) w1
  refine wp_region_lit ?_
  refine l_take 21 rfl rfl (er_fIm0 _ rfl w.heap.size 0 rfl) ?_
  simp only [Act.put, List.setIfInBounds_toArray, List.set_cons_zero, List.set_cons_succ]
  refine l_take 22 rfl rfl (er_ldPs _ rfl w.heap.size 0 _ rfl q0) ?_
  simp only [Act.put, List.setIfInBounds_toArray, List.set_cons_zero, List.set_cons_succ]
  refine l_take 23 rfl rfl (er_mv _ rfl (.int .i64 (p : Int)) rfl) ?_
  simp only [Act.put, List.setIfInBounds_toArray, List.set_cons_zero, List.set_cons_succ]
  refine l_take 24 rfl rfl (er_sub _ _ rfl p 1 ((p - 1 : Nat) : Int) rfl rfl hsub) ?_
  simp only [Act.put, List.setIfInBounds_toArray, List.set_cons_zero, List.set_cons_succ]
  refine l_take 25 rfl rfl (er_idxPn _ _ rfl b o' n0 c0 (p - 1) (by omega) (by omega) rfl rfl) ?_
  simp only [Act.put, List.setIfInBounds_toArray, List.set_cons_zero, List.set_cons_succ]
  refine l_take 26 rfl rfl (er_fPn5 _ rfl b (o' + (p - 1) * 21) rfl) ?_
  simp only [Act.put, List.setIfInBounds_toArray, List.set_cons_zero, List.set_cons_succ]
  refine l_take 27 rfl rfl (er_ldPc _ rfl b (o' + (p - 1) * 21 + 8) _ rfl c8) ?_
  simp only [Act.put, List.setIfInBounds_toArray, List.set_cons_zero, List.set_cons_succ]
  have HN : Hid (Nm (mkN n2 w1) w1.heap.size n2 (fun _ => 0) ∧ Kept No w1 (mkN n2 w1)) := ⟨mkN_nm n2 w1, (Kept.refl No w1).alloc _⟩
  go_wp2
  have HKA : Hid (Kept No w (mkN n2 w1) ∧ Kept No (w.alloc (.cells #[.slice (some ⟨b, o', none⟩) n0 c0, v1, v2] 26)) (mkN n2 w1) ∧ w.heap.size ≤ w1.heap.size) := ⟨K.trans HN.out.2 (fun _ h => h.elim), HK1.out.trans HN.out.2 (fun _ h => h.elim), K.size⟩
  clear hmk c8 q0 q1 q2 m0 m1 m2 K
  generalize mkN n2 w1 = w2 at *
  go_loopw [32] (fun x wr => ∃ k : Nat, k ≤ n2 ∧ x = .int .i64 k ∧ Nm wr w1.heap.size n2 (fun i => if i < k then -1 else 0) ∧ Kept No w wr ∧ Kept No (w.alloc (.cells #[.slice (some ⟨b, o', none⟩) n0 c0, v1, v2] 26)) wr) (fun x _ => n2 - (intOf x).toNat)
  case atStart => exact ⟨0, by omega, rfl, HN.out.1, HKA.out.1, HKA.out.2.1⟩
  case round =>
    obtain ⟨k, hk, rfl, hnm, hkr, hkb⟩ := hrel
    by_cases hlt : k < n2
    · have cc0 : wr.cell? ⟨w1.heap.size, k, none⟩ = some (.int .i64 0) := by have := hnm.2 k hlt; simpa using this
      have fz := hnm.fz k
      have HR : Hid (Nm (wr.setCell ⟨w1.heap.size, k, none⟩ (.int .i64 (-1))) w1.heap.size n2 (fun i => if i < k + 1 then -1 else 0) ∧ Kept No w (wr.setCell ⟨w1.heap.size, k, none⟩ (.int .i64 (-1))) ∧ Kept No (w.alloc (.cells #[.slice (some ⟨b, o', none⟩) n0 c0, v1, v2] 26)) (wr.setCell ⟨w1.heap.size, k, none⟩ (.int .i64 (-1)))) := by
        refine ⟨(hnm.put k (-1)).congr (fun i hi => ?_), hkr.setCell (p := ⟨w1.heap.size, k, none⟩) (.inr HKA.out.2.2) _, hkb.setCell (p := ⟨w1.heap.size, k, none⟩) (.inr HK1.out.size) _⟩
        show (if i = k then (-1 : Int) else if i < k then -1 else 0) = if i < k + 1 then -1 else 0
        by_cases e : i = k
        · rw [if_pos e, if_pos (by omega)]
        · rw [if_neg e]
          by_cases e2 : i < k
          · rw [if_pos e2, if_pos (by omega)]
          · rw [if_neg e2, if_neg (by omega)]
      have hmx : n2 ≤ 9223372036854775807 := by omega
      clear hnm hkr hkb
      go_wp2
      go_roundw
      case rel => exact ⟨k + 1, by omega, by go_num, HR.out⟩
      case measure => simp [intOf]; omega
    · have hke : k = n2 := by omega
      subst hke
      obtain ⟨r0, r1, r2, _⟩ := HM.out wr hkb
      have s0 : wr.rangeAt w.heap.size 0 [.slice (some ⟨b, o', none⟩) n0 c0, v1, v2] := fun j v hv => by
        match j, hv with
        | 0, hv => injection hv with hv; subst hv; exact r0
        | 1, hv => injection hv with hv; subst hv; exact r1
        | 2, hv => injection hv with hv; subst hv; exact r2
      have HLI := run_loadAt_mid wr w.heap.size 0 26 _ _ s0 Tryz.underlying26 rfl sizeIm
      have cp := HPL.out wr hkr
      have HW : Hid (Nm wr w1.heap.size k (fun i => if i < k then -1 else 0) ∧ Kept No w wr) := ⟨hnm, hkr⟩
      have hmul : wrap64 (2 * (m : Int)) = ((2 * m : Nat) : Int) := by rw [← w64i, IntWalk.i64_in _ ⟨by omega, by omega⟩]; omega
      clear r0 r1 r2 s0 hnm hkr hkb
      go_upto_region 10 with fail
      refine wp_region_lit ?_
      refine l_take 39 rfl rfl (er_ld _ _ rfl _ _ rfl HLI) ?_
      simp only [Act.put, List.setIfInBounds_toArray, List.set_cons_zero, List.set_cons_succ]
      refine l_take 40 rfl rfl (er_mv _ rfl (.int .i64 (p : Int)) rfl) ?_
      simp only [Act.put, List.setIfInBounds_toArray, List.set_cons_zero, List.set_cons_succ]
      refine l_take 41 rfl rfl (er_mv _ rfl (.int .i64 (m : Int)) rfl) ?_
      simp only [Act.put, List.setIfInBounds_toArray, List.set_cons_zero, List.set_cons_succ]
      refine l_take 42 rfl rfl (er_mul2 _ _ rfl 2 m ((2 * m : Nat) : Int) rfl rfl hmul) ?_
      simp only [Act.put, List.setIfInBounds_toArray, List.set_cons_zero, List.set_cons_succ]
      refine l_call 43 (f := 16) (args := #[.agg #[.slice (some ⟨b, o', none⟩) n0 c0, v1, v2], .int .i64 (p : Int), .int .i64 ((2 * m : Nat) : Int)]) rfl rfl (er_c_rplay (.tmp 39) (.tmp 40) (.tmp 42) _ rfl _ _ _ rfl rfl rfl) cp ?_
      rintro e w5 ⟨g, s, d, f, rfl, hP⟩
      refine ⟨_, rfl, ?_⟩
      simp only [Act.put, List.setIfInBounds_toArray, List.set_cons_zero, List.set_cons_succ]
      have HP : Hid (Pyd o (2 * m) y.procs.length y.procs wr w5 g s d f) := hP
      have hsn := hP.le
      have hk5 := hP.kp
      have HN5 : Hid (Nm w5 w1.heap.size k (wsF d f 0) ∧ Ln w5 g k f ∧ Kept No w w5 ∧ g ≠ w1.heap.size) := by
        refine ⟨(HW.out.1.kept hk5 (fun h => h)).congr (fun i hi => ?_), by rw [← hn2]; exact hP.ln, HW.out.2.trans hk5 (fun _ h => h.elim), ?_⟩
        · show (if i < k then (-1 : Int) else 0) = -1
          rw [if_pos hi]
        · have := hP.nw; have := HW.out.1.lt; omega
      rw [hn2] at hsn
      clear HLI cp hP hk5
      go_wp2
      go_loopw [45] (fun x wq => ∃ j : Nat, j ≤ s ∧ x = .int .i64 j ∧ Nm wq w1.heap.size k (wsF d f j) ∧ Ln wq g k f ∧ Kept No w wq) (fun x _ => s - (intOf x).toNat)
      case atStart => exact ⟨0, by omega, rfl, HN5.out.1, HN5.out.2.1, HN5.out.2.2.1⟩
      case round =>
        obtain ⟨j, hj, rfl, hnm, hln, hkr⟩ := hrel
        by_cases hlt2 : j < s
        · have hpl2 : (f j).pl < k := by have := pyd_pl HP.out (j := j) (by omega); omega
          have hrg0 := ln_range hln (i := j) (by omega)
          obtain ⟨w7, hst, hrg, hk2⟩ := box_Wk wr (pw (f j)) (by simp [pw]) (pw_ones _)
          have HLD := run_loadAt_mid wr g (j * 11) 63 _ _ hrg0 Tryz.underlying63 rfl (by rw [sizeW]; simp [pw])
          have p6 : w7.cell? ⟨wr.heap.size, 6, none⟩ = some (.int .i64 (f j).pl) := by have := hrg 6 _ rfl; rw [Nat.zero_add] at this; exact this
          have p10 : w7.cell? ⟨wr.heap.size, 10, none⟩ = some (.int .i64 (f j).k.worst) := by have := hrg 10 _ rfl; rw [Nat.zero_add] at this; exact this
          have hnm7 := hnm.kept hk2 (fun h => h)
          have hc7 := hnm7.2 _ hpl2
          have fz7 := hnm7.fz (f j).pl
          have hglt := HW.out.1.lt
          have HR : Hid (Nm (w7.setCell ⟨w1.heap.size, (f j).pl, none⟩ (.int .i64 (f j).k.worst)) w1.heap.size k (wsF d f (j + 1)) ∧ Ln (w7.setCell ⟨w1.heap.size, (f j).pl, none⟩ (.int .i64 (f j).k.worst)) g k f ∧ Kept No w (w7.setCell ⟨w1.heap.size, (f j).pl, none⟩ (.int .i64 (f j).k.worst))) := by
            have kS : Kept (fun i => i = w1.heap.size) w7 (w7.setCell ⟨w1.heap.size, (f j).pl, none⟩ (.int .i64 (f j).k.worst)) := (Kept.refl (fun i => i = w1.heap.size) w7).setCell (p := ⟨w1.heap.size, (f j).pl, none⟩) (.inl rfl) _
            refine ⟨hnm7.put (f j).pl _, (hln.kept hk2 (fun h => h)).kept kS (fun e => HN5.out.2.2.2 e), (hkr.trans hk2 (fun _ h => h.elim)).setCell (p := ⟨w1.heap.size, (f j).pl, none⟩) (.inr HKA.out.2.2) _⟩
          have hkm : k ≤ 9223372036854775807 := by omega
          have hsm : s ≤ 9223372036854775807 := by omega
          clear hnm7 hnm hln hkr hrg hrg0 hk2
          generalize pw (f j) = pv at *
          generalize (f j).k.worst = wv at *
          generalize (f j).pl = pl at *
          go_upto_region 12 with fail
          refine wp_region_lit ?_
          refine l_take 47 rfl rfl (er_idxW _ _ rfl g s _ j hlt2 hsm rfl rfl) ?_
          simp only [Act.put, List.setIfInBounds_toArray, List.set_cons_zero, List.set_cons_succ]
          refine l_take 48 rfl rfl (er_ld _ _ rfl _ _ rfl HLD) ?_
          simp only [Act.put, List.setIfInBounds_toArray, List.set_cons_zero, List.set_cons_succ]
          refine l_make 11 rfl rfl (er_alWk rfl) ?_
          simp only [Act.put, List.setIfInBounds_toArray, List.set_cons_zero, List.set_cons_succ]
          refine l_turn rfl rfl (er_st _ _ _ rfl _ _ rfl rfl hst) ?_
          clear hst HLD
          go_wp2
          go_roundw
          case rel => exact ⟨j + 1, by omega, by go_num, HR.out⟩
          case measure => simp [intOf]; omega
        · have hje : j = s := by omega
          subst hje
          have HF : Hid (Nm wr w1.heap.size k (wsF d f j) ∧ Kept No w wr) := ⟨hnm, hkr⟩
          clear hnm hln hkr
          go_wp2
          go_ret2
          subst hn2
          exact ⟨w1.heap.size, g, j, d, f, _, w5, rfl, HP.out, HF.out.1, HKA.out.2.2, HF.out.2⟩
end Go.Proofs.YtnmhcnppdhdhfaaGreatDoor

namespace Go.Proofs.YtnmhcnppdhdhfaaGreatDoor
open Go.RowKit Plain
set_option linter.unusedVariables false
set_option linter.unusedSimpArgs false
set_option maxRecDepth 100000

theorem getD_prc {xs : List Prc} {j : Nat} (h : j < xs.length) : xs[j]? = some (xs.getD j dPrc) := by rw [List.getD, List.getElem?_eq_getElem h]; rfl
/-- a finding is an error -/
def Bad (o : Option (Int × Int)) : Prop := ∀ q, o = some q → q.1 ≠ 0
theorem eachF_bad {r : Nat → Int} {first : Int} : ∀ n, Bad (eachF r first n)
  | 0 => fun q h => by cases h
  | n + 1 => fun q h => by
    rw [eachF] at h
    cases he : eachF r first n with
    | some p => rw [he] at h; exact eachF_bad n q (by rw [he]; exact h)
    | none =>
      rw [he] at h
      by_cases hz : r n = 0
      · rw [if_pos hz] at h; cases h
      · rw [if_neg hz] at h; injection h with h; subst h; exact hz
theorem firstF_bad {s : Nat → Option (Int × Int)} : ∀ n, (∀ j, j < n → Bad (s j)) → Bad (firstF s n)
  | 0, _ => fun q h => by cases h
  | n + 1, hs => fun q h => by
    rw [firstF] at h
    cases he : firstF s n with
    | some p => rw [he] at h; exact firstF_bad n (fun j hj => hs j (by omega)) q (by rw [he]; exact h)
    | none => rw [he] at h; exact hs n (by omega) q h
theorem timF_bad (xs : List Srv) (n : Nat) : Bad (timF xs n) := fun q h => by
  unfold timF at h
  cases hf : findF xs n with
  | some p =>
    rw [hf] at h
    injection h with h
    subst h
    unfold findF at hf
    split at hf
    · exact eachF_bad n _ hf
    · injection hf with hf; subst hf; simp
  | none =>
    rw [hf] at h
    change togF xs n = some q at h
    unfold togF at h
    split at h
    · split at h
      · cases h
      · injection h with h; subst h; simp
    · injection h with h; subst h; simp
theorem stS_bad (x : Im) (j : Nat) (hj : j < 6) : Bad (stS x j) := by
  match j, hj with
  | 0, _ =>
    intro q h
    simp only [stS] at h
    split at h
    · cases h
    · injection h with h; subst h; simp
  | 1, _ => exact eachF_bad _
  | 2, _ => exact timF_bad _ _
  | 3, _ => exact eachF_bad _
  | 4, _ => exact eachF_bad _
  | 5, _ => exact eachF_bad _
theorem chk_none {x : Im} (h : fe (chkF x) = 0) : chkF x = none := by
  cases hc : chkF x with
  | none => rfl
  | some q => rw [hc] at h; exact absurd h (firstF_bad 6 (stS_bad x) q hc)
theorem chk_tim {x : Im} (h : chkF x = none) : timF (svs x.parts) x.parts.length = none := firstF_none h 2 (by omega)
theorem chk_cnt {x : Im} (h : chkF x = none) {i : Nat} (hi : i < x.parts.length) : ∀ j, j < 6 → bCn (x.parts.getD i dPn) j = true := by
  have h1 := firstF_none h 1 (by omega)
  have h2 := eachF_none (show eachF (fun i => rowsF (fun j => if bCn (x.parts.getD i dPn) j then 0 else 100) 6) 1 x.parts.length = none from h1) i hi
  intro j hj
  have h3 := rowsF_zero h2 j hj
  cases hb : bCn (x.parts.getD i dPn) j with
  | true => rfl
  | false =>
    rw [hb] at h3
    simp at h3
theorem mul_num {H : Nat} {ps : List Prc} (h : lcmB (zR H ps) (ps.length + 1) 1048576 = true) : ∃ m : Nat, lcmV (zR H ps) (ps.length + 1) 1048576 = (m : Int) ∧ 1 ≤ m ∧ m ≤ 1048576 ∧ H ∣ m ∧ 1 ≤ H ∧ ∀ j, j < ps.length → 1 ≤ (ps.getD j dPrc).pe ∧ (ps.getD j dPrc).pe ≤ 1048576 ∧ (ps.getD j dPrc).pe.toNat ∣ m := by
  obtain ⟨h0, h1, _⟩ := lcmV_facts (zR H ps) (ps.length + 1) 1048576
  have hp : 0 < lcmV (zR H ps) (ps.length + 1) 1048576 := by unfold lcmB at h; exact of_decide_eq_true h
  obtain ⟨h2, h3⟩ := h1 hp
  generalize lcmV (zR H ps) (ps.length + 1) 1048576 = v at *
  obtain ⟨m, rfl⟩ := Int.eq_ofNat_of_zero_le h0
  refine ⟨m, rfl, by omega, by omega, ?_, ?_, fun j hj => ?_⟩
  · have := (h3 0 (by omega)).2
    exact Int.natCast_dvd_natCast.1 (by simpa [zR] using this)
  · have := (h3 0 (by omega)).1
    simp only [zR, if_true] at this
    omega
  · obtain ⟨a1, a2⟩ := h3 (j + 1) (by omega)
    have e : zR H ps (j + 1) = (ps.getD j dPrc).pe := by unfold zR; rw [if_neg (by omega)]; rfl
    rw [e] at a1 a2
    have a3 := Int.le_of_dvd (by omega) a2
    refine ⟨a1, by omega, ?_⟩
    rw [← Int.natCast_dvd_natCast, Int.toNat_of_nonneg (by omega)]
    exact a2
theorem jobs_ok {xs : List Prc} : ∀ n, hjB xs n = true → ∀ j, j < n → job1 (xs.getD j dPrc) = true ∧ (xs.take j).any (fun o => o.pr == (xs.getD j dPrc).pr) = false
  | 0, _, j, hj => by omega
  | n + 1, h, j, hj => by
    simp only [hjB, Bool.and_eq_true, Bool.not_eq_true'] at h
    rcases Nat.lt_or_eq_of_le (Nat.lt_succ_iff.1 hj) with h1 | h1
    · exact jobs_ok n h.1 j h1
    · subst h1; exact h.2
/-- what the play wants of the processes -/
theorem has_t {H m : Nat} {ps : List Prc} (hj : hjB ps ps.length = true) (hok : ∀ j, j < ps.length → okPrc (ps.getD j dPrc)) (hc : ∀ j, j < ps.length → 0 ≤ (ps.getD j dPrc).ca ∧ (ps.getD j dPrc).ca ≤ 2199023255552) (hp : ∀ j, j < ps.length → 1 ≤ (ps.getD j dPrc).pe ∧ (ps.getD j dPrc).pe ≤ 1048576 ∧ (ps.getD j dPrc).pe.toNat ∣ m) : hasT ps := fun j hlt => by
  obtain ⟨h1, _⟩ := jobs_ok _ hj j hlt
  obtain ⟨p1, p2, _⟩ := hp j hlt
  obtain ⟨c1, c2⟩ := hc j hlt
  generalize ps.getD j dPrc = z at *
  obtain ⟨ze, zp, zt, zl, zc, za⟩ := z
  simp [job1] at h1
  simp only at *
  exact ⟨by omega, by omega, by omega, c2⟩
theorem chk_ca {x : Im} (h : chkF x = none) {i : Nat} (hi : i < x.parts.length) {k : Nat} (hk : k < (x.parts.getD i dPn).procs.length) : 0 ≤ ((x.parts.getD i dPn).procs.getD k dPrc).ca ∧ ((x.parts.getD i dPn).procs.getD k dPrc).ca ≤ 2199023255552 := by
  have h1 := firstF_none h 3 (by omega)
  have h2 := eachF_none (show eachF (fun i => rowsF (ePt (x.parts.getD i dPn)) 9) 1 x.parts.length = none from h1) i hi
  have h3 := rowsF_zero h2 3 (by omega)
  generalize x.parts.getD i dPn = y at *
  have h4 : eachF (fun i => rowsF (fun j => if bPrc y.code.length (y.procs.getD i ⟨0, 0, 0, 0, 0, false⟩) j then 0 else 105) 6) 1 y.procs.length = none := by
    cases hc : eachF (fun i => rowsF (fun j => if bPrc y.code.length (y.procs.getD i ⟨0, 0, 0, 0, 0, false⟩) j then 0 else 105) 6) 1 y.procs.length with
    | none => rfl
    | some q =>
      have h5 : fe (eachF (fun i => rowsF (fun j => if bPrc y.code.length (y.procs.getD i ⟨0, 0, 0, 0, 0, false⟩) j then 0 else 105) 6) 1 y.procs.length) = 0 := h3
      rw [hc] at h5
      exact absurd h5 (eachF_bad _ q hc)
  have h5 := rowsF_zero (eachF_none h4 k hk) 5 (by omega)
  have e : y.procs.getD k dPrc = y.procs.getD k ⟨0, 0, 0, 0, 0, false⟩ := rfl
  rw [e]
  generalize y.procs.getD k ⟨0, 0, 0, 0, 0, false⟩ = z at *
  cases hb : bPrc y.code.length z 5 with
  | false => rw [hb] at h5; simp at h5
  | true =>
    have hb2 : inB z.ca 0 2147483647 = true := hb
    simp [inB] at hb2
    omega
theorem chk_np {x : Im} (h : chkF x = none) {i : Nat} (hi : i < x.parts.length) : 1 ≤ (x.parts.getD i dPn).procs.length ∧ (x.parts.getD i dPn).procs.length ≤ 16 := by
  have h1 := chk_cnt h hi 2 (by omega)
  generalize x.parts.getD i dPn = y at *
  have h2 : inB y.procs.length 1 16 = true := h1
  simp [inB] at h2
  omega

set_option maxHeartbeats 4000000 in
/-- Worst of a partition that the analysis speaks of -/
theorem worst_any {F : Nat → Prop} {a0 : Option Addr} {n0 c0 : Nat} {a1 : Option Addr} {n1 c1 : Nat} {a2 : Option Addr} {n2 c2 : Nat} {x : Im} (p : Nat) (w : World) (hg : Gl w) (hO : Lg.Ops w) (h : Img w F a0 n0 c0 a1 n1 c1 a2 n2 c2 x) (hF : ∀ k, F k → k < w.heap.size) (hchk : chkF x = none) (hp1 : 1 ≤ p) (hp2 : p ≤ n0) (hf : rfitB (x.parts.getD (p - 1) dPn) = true) (hl : lcmB (zR (hyp (svs x.parts)) (x.parts.getD (p - 1) dPn).procs) ((x.parts.getD (p - 1) dPn).procs.length + 1) 1048576 = true) :
    ∃ m : Nat, 1 ≤ m ∧ m ≤ 1048576 ∧ hyp (svs x.parts) ∣ m ∧ (∀ j, j < (x.parts.getD (p - 1) dPn).procs.length → ((x.parts.getD (p - 1) dPn).procs.getD j dPrc).pe.toNat ∣ m) ∧ hasT (x.parts.getD (p - 1) dPn).procs ∧
    Calls Tryz.prog 6 #[.agg #[.slice a0 n0 c0, .slice a1 n1 c1, .slice a2 n2 c2], .int .i64 (p : Int)] w fun e w' => ∃ gl g s d f W w2, e = .returned (.tuple #[.slice (some ⟨gl, 0, none⟩) (x.parts.getD (p - 1) dPn).procs.length (x.parts.getD (p - 1) dPn).procs.length, .int .i64 0]) ∧ Pyd (occB (Rule.occ (sys (svs x.parts))) p) (2 * m) (x.parts.getD (p - 1) dPn).procs.length (x.parts.getD (p - 1) dPn).procs W w2 g s d f ∧ Nm w' gl (x.parts.getD (p - 1) dPn).procs.length (wsF d f s) ∧ w.heap.size ≤ gl ∧ Kept No w w' := by
  have hlen := h.ps.len
  have ht : timF (svs x.parts) n0 = none := by rw [← hlen]; exact chk_tim hchk
  obtain ⟨np1, np2⟩ := chk_np hchk (i := p - 1) (by omega)
  obtain ⟨m, hm0, hm1, hm2, hH, hH1, hper⟩ := mul_num hl
  have hj : hjB (x.parts.getD (p - 1) dPn).procs (x.parts.getD (p - 1) dPn).procs.length = true := by
    unfold rfitB at hf
    simp only [Bool.and_eq_true] at hf
    exact hf.2.2
  have hT : hasT (x.parts.getD (p - 1) dPn).procs := has_t (H := 0) hj (fun j hj => by
    have hx : x.parts[p - 1]? = some (x.parts.getD (p - 1) dPn) := by rw [List.getD, List.getElem?_eq_getElem (by omega)]; rfl
    obtain ⟨_, _, _, _, _, _, _, hE⟩ := h.ps.at' _ _ hx
    obtain ⟨_, _, _, _, _, _, _, _, _, _, _, _, _, _, _, _, _, _, _, _, _, hL, _⟩ := hE.sl
    have hy : (x.parts.getD (p - 1) dPn).procs[j]? = some ((x.parts.getD (p - 1) dPn).procs.getD j dPrc) := getD_prc hj
    obtain ⟨_, _, _, _, _, _, _, _, ho⟩ := hL.at' _ _ hy
    exact ho) (fun j hj => chk_ca hchk (by omega) hj) hper
  refine ⟨m, hm1, hm2, hH, fun j hj => (hper j hj).2.2, hT, ?_⟩
  obtain ⟨q, hq⟩ := hH
  have hq1 : 1 ≤ q := by
    rcases Nat.eq_zero_or_pos q with e | e
    · subst e; omega
    · exact e
  have e2 : hyp (svs x.parts) * (2 * q) = 2 * m := by rw [hq, Nat.mul_left_comm]
  refine worst_yes (.slice a1 n1 c1) (.slice a2 n2 c2) x.parts w hg h.ps hF p m hp1 hp2 hm1 hm2 (by omega) (fun W k => ?_) (occB (Rule.occ (sys (svs x.parts))) p) (fun W k => ?_)
  · have := mul_yes p W (hg.kept k) (ops_kept hO k (fun h => h)) (h.kept k (fun _ _ h => h)) (by rw [hchk]; rfl) hp1 hp2 hf ht (by omega)
    unfold mulV at this
    rw [hl, if_pos rfl, hm0] at this
    exact this
  · have := rplay_any (.slice a1 n1 c1) (.slice a2 n2 c2) x.parts W (hg.kept k) (h.ps.kept k (fun _ _ h => h) (elPn_kept k (fun _ _ h => h))) (fun i hi => by have := hF i hi; have := k.size; omega) (by have := (vd_of (xs := svs x.parts) (by rw [svs_len, hlen]; exact ht)).num; rw [svs_len, hlen] at this; omega) p (2 * q) hp1 hp2 ht (by omega) (by rw [e2]; omega) hT (by omega) (fun j hj => by
      rw [e2]
      exact Nat.mod_eq_zero_of_dvd (Nat.dvd_trans (hper j hj).2.2 (Nat.dvd_mul_left _ _)))
    rw [e2] at this
    exact this
end Go.Proofs.YtnmhcnppdhdhfaaGreatDoor

namespace Go.Proofs.YtnmhcnppdhdhfaaGreatDoor
open Go.RowKit Plain
set_option linter.unusedVariables false
set_option maxRecDepth 100000

theorem lv_again {o : Nat → Bool} {T C : Nat → Nat} {M : Nat} (ho : Rp.again o M) (hM : 0 < M) : ∀ j, (∀ i, i < j → M % T i = 0) → Rp.again (lv o T C j) M
  | 0, _ => ho
  | j + 1, h => Rp.nxt_again (lv_again ho hM j (fun i hi => h i (by omega))) hM (h j (by omega))
theorem occ_again {xs : List Srv} (ht : timF xs xs.length = none) (p : Nat) {M : Nat} (hM : hyp xs ∣ M) (h1 : 1 ≤ M) : Rp.again (occB (Rule.occ (sys xs)) p) M := fun t htM => by
  have hv := vd_of ht
  obtain ⟨k, rfl⟩ := hM
  have hk : hyp xs ≤ hyp xs * k := by
    rcases Nat.eq_zero_or_pos k with e | e
    · subst e; omega
    · exact Nat.le_mul_of_pos_right _ e
  have := Rule.again_mul hv.bd.ok (H := hyp xs) (fun i hi => hv.dvd i hi) t (by omega) k
  unfold occB
  rw [Nat.mul_comm, this]
/-- a level's answer is the same at the ends of two multiples -/
theorem told_same {A : Nat → Bool} {c T M M' : Nat} (h : Rp.again A M) (h' : Rp.again A M') (hM : 0 < M) (hM' : 0 < M') (hT : M % T = 0) (hT' : M' % T = 0) :
    (Rp.okE A (fun _ => c) T (2 * M) ↔ Rp.okE A (fun _ => c) T (2 * M')) ∧ Rp.wrst A (fun _ => c) T (2 * M) = Rp.wrst A (fun _ => c) T (2 * M') := by
  refine ⟨⟨fun ho => Rp.okE_again h hM hT ho _, fun ho => Rp.okE_again h' hM' hT' ho _⟩, ?_⟩
  have h1 : 2 * M ≤ 2 * (M * M') := Nat.mul_le_mul_left 2 (Nat.le_mul_of_pos_right M hM')
  have h2 : 2 * M' ≤ 2 * (M * M') := Nat.mul_le_mul_left 2 (Nat.le_mul_of_pos_left M' hM)
  rw [← Rp.wrst_again h hM hT (2 * (M * M')) h1, ← Rp.wrst_again h' hM' hT' (2 * (M * M')) h2]
end Go.Proofs.YtnmhcnppdhdhfaaGreatDoor

namespace Go.Proofs.YtnmhcnppdhdhfaaGreatDoor
open Go.RowKit Plain
set_option linter.unusedVariables false
set_option maxRecDepth 100000

theorem sorted_eq {α : Type} {R : α → α → Prop} (hasy : ∀ x y, R x y → R y x → False) : ∀ (A B : List α), A.Perm B → A.Pairwise R → B.Pairwise R → A = B
  | [], B, h, _, _ => by have := h.length_eq; cases B with
    | nil => rfl
    | cons b B => simp at this
  | a :: A, [], h, _, _ => by have := h.length_eq; simp at this
  | a :: A, b :: B, h, hA, hB => by
    have e : a = b := by
      apply Classical.byContradiction
      intro hne
      have h1 : a ∈ B := by
        rcases List.mem_cons.1 (h.mem_iff.1 (List.mem_cons_self)) with e | e
        · exact absurd e hne
        · exact e
      have h2 : b ∈ A := by
        rcases List.mem_cons.1 (h.mem_iff.2 (List.mem_cons_self)) with e | e
        · exact absurd e.symm hne
        · exact e
      exact hasy _ _ ((List.pairwise_cons.1 hA).1 _ h2) ((List.pairwise_cons.1 hB).1 _ h1)
    subst e
    rw [sorted_eq hasy A B (h.cons_inv) (List.pairwise_cons.1 hA).2 (List.pairwise_cons.1 hB).2]
def prs (xs : List Prc) (i : Nat) : Int := (xs.getD i dPrc).pr
theorem places_perm {xs : List Prc} {d : Array Wr} (hp : d.toList.Perm (line0 xs)) : (d.toList.map (·.pl)).Perm (List.range xs.length) := by
  have := hp.map (·.pl)
  refine this.trans ?_
  unfold line0
  rw [List.map_map]
  have e : (Wr.pl ∘ fun i => wrk (xs.getD i dPrc) i) = id := rfl
  rw [e, List.map_id]
theorem place_at {xs : List Prc} {d : Array Wr} (hp : d.toList.Perm (line0 xs)) {x : Wr} (hx : x ∈ d.toList) : x.pl < xs.length ∧ x = wrk (xs.getD x.pl dPrc) x.pl := by
  have hm := hp.mem_iff.1 hx
  unfold line0 at hm
  rw [List.mem_map] at hm
  obtain ⟨j, hj, e⟩ := hm
  subst e
  exact ⟨List.mem_range.1 hj, rfl⟩
theorem places_sorted {xs : List Prc} {d : Array Wr} (hp : d.toList.Perm (line0 xs)) (hs : d.toList.Pairwise (fun x y => y.pr ≤ x.pr)) (hinj : ∀ i j, i < xs.length → j < xs.length → prs xs i = prs xs j → i = j) : (d.toList.map (·.pl)).Pairwise (fun i j => prs xs j < prs xs i) := by
  have hnd : (d.toList.map (·.pl)).Pairwise (fun i j => i ≠ j) := ((places_perm hp).pairwise_iff (fun {a b} h => Ne.symm h)).2 (List.Pairwise.imp (fun h => by omega) List.pairwise_lt_range)
  rw [List.pairwise_map] at hnd ⊢
  refine List.Pairwise.imp_of_mem ?_ (hs.and hnd)
  intro x y hx hy h
  obtain ⟨h1, h2⟩ := h
  obtain ⟨lx, ex⟩ := place_at hp hx
  obtain ⟨ly, ey⟩ := place_at hp hy
  have ax : x.pr = prs xs x.pl := by rw [ex]; rfl
  have ay : y.pr = prs xs y.pl := by rw [ey]; rfl
  rw [ax, ay] at h1
  rcases Int.lt_or_eq_of_le h1 with h3 | h3
  · exact h3
  · exact absurd (hinj _ _ lx ly h3.symm) h2
theorem places_eq {xs ys : List Prc} {d d' : Array Wr} (hl : ys.length = xs.length) (hpr : ∀ i, prs ys i = prs xs i) (hinj : ∀ i j, i < xs.length → j < xs.length → prs xs i = prs xs j → i = j)
    (hp : d.toList.Perm (line0 xs)) (hs : d.toList.Pairwise (fun x y => y.pr ≤ x.pr)) (hp' : d'.toList.Perm (line0 ys)) (hs' : d'.toList.Pairwise (fun x y => y.pr ≤ x.pr)) : d.toList.map (·.pl) = d'.toList.map (·.pl) := by
  have h1 := places_sorted hp hs hinj
  have h2 := places_sorted hp' hs' (fun i j hi hj e => hinj i j (by omega) (by omega) (by rw [← hpr, ← hpr]; exact e))
  refine sorted_eq (R := fun i j => prs xs j < prs xs i) (fun x y a b => by omega) _ _ ?_ h1 (List.Pairwise.imp (fun {a b} h => by rw [hpr, hpr] at h; exact h) h2)
  have p1 := places_perm hp
  have p2 := places_perm hp'
  rw [hl] at p2
  exact p1.trans p2.symm
theorem jobs_inj {xs : List Prc} (h : hjB xs xs.length = true) : ∀ i j, i < xs.length → j < xs.length → prs xs i = prs xs j → i = j := by
  have key : ∀ i j, i < j → j < xs.length → prs xs i ≠ prs xs j := by
    intro i j hij hj e
    obtain ⟨_, h2⟩ := jobs_ok _ h j hj
    rw [List.any_eq_false] at h2
    have hm : xs.getD i dPrc ∈ xs.take j := by
      rw [List.mem_take_iff_getElem]
      refine ⟨i, by omega, ?_⟩
      rw [List.getD, List.getElem?_eq_getElem (by omega)]; rfl
    exact h2 _ hm (by simpa [prs] using e)
  intro i j hi hj e
  rcases Nat.lt_trichotomy i j with h1 | h1 | h1
  · exact absurd e (key i j h1 hj)
  · exact h1
  · exact absurd e.symm (key j i h1 hi)
end Go.Proofs.YtnmhcnppdhdhfaaGreatDoor
