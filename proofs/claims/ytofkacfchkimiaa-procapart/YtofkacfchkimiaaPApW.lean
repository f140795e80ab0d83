/-
  ProcApart: the walk.
-/
import Derived.Test.YtofkacfchkimiaaPApL
import Derived.Deep.DeepCutAuto
namespace Go.Proofs.Ytofkacfchkimiaa
open Go.RowKit Plain
set_option linter.unusedVariables false
set_option linter.unusedSimpArgs false
set_option maxRecDepth 100000

theorem er_cM {w : World} {a : Act} {o : Oper} (x : Operand) (t : TypeId) (ho : o.op = .call { callee := .value (.func 27), args := #[x], argTypes := #[t] }) (v : Value) (hx : a.eval x = v) : (execOp a.eval o).run Try.prog w = .ok (.enter 27 #[v]) w := by
  subst hx
  simp [execOp, ho, go_sem, Act.eval]
theorem er_cC {w : World} {a : Act} {o : Oper} (x : Operand) (t : TypeId) (ho : o.op = .call { callee := .value (.func 28), args := #[x], argTypes := #[t] }) (v : Value) (hx : a.eval x = v) : (execOp a.eval o).run Try.prog w = .ok (.enter 28 #[v]) w := by
  subst hx
  simp [execOp, ho, go_sem, Act.eval]
theorem er_cN {w : World} {a : Act} {o : Oper} (x : Operand) (t : TypeId) (ho : o.op = .call { callee := .value (.func 8), args := #[x], argTypes := #[t] }) (v : Value) (hx : a.eval x = v) : (execOp a.eval o).run Try.prog w = .ok (.enter 8 #[v]) w := by
  subst hx
  simp [execOp, ho, go_sem, Act.eval]
theorem q_eqn {w : World} {a : Act} {o : Oper} (x : Operand) (ho : o.op = .binOp .eql 22 x (.const (.pointer none)) 22) (b : Nat) (hx : a.eval x = .pointer (some ⟨b, 0, none⟩)) : (execOp a.eval o).run Try.prog w = .ok (.value (.bool false)) w := by
  simp only [execOp, ho, hx]; simp [go_sem, Act.eval]
theorem q_not {w : World} {a : Act} {o : Oper} (x : Operand) (ho : o.op = .unOp .not 4 x) (u : Bool) (hx : a.eval x = .bool u) : (execOp a.eval o).run Try.prog w = .ok (.value (.bool (!u))) w := by
  simp only [execOp, ho, hx]
  cases u <;> simp [go_sem]
theorem er_ck {w : World} {a : Act} {o : Oper} (ho : o.op = .call { callee := .value (.func 9), args := #[], argTypes := #[] }) : (execOp a.eval o).run Try.prog w = .ok (.enter 9 #[]) w := by
  simp [execOp, ho, go_sem, Act.eval]
theorem er_cPl {w : World} {a : Act} {o : Oper} (x y : Operand) (t u : TypeId) (ho : o.op = .call { callee := .value (.func 29), args := #[x, y], argTypes := #[t, u] }) (v1 v2 : Value) (h1 : a.eval x = v1) (h2 : a.eval y = v2) : (execOp a.eval o).run Try.prog w = .ok (.enter 29 #[v1, v2]) w := by
  subst h1 h2
  simp [execOp, ho, go_sem, Act.eval]
theorem q_ixS {w : World} {a : Act} {o : Oper} (x y : Operand) (ho : o.op = .indexAddr 72 x y) (b n c d : Nat) (hd : d < n) (hn : n ≤ 9223372036854775807) (hx : a.eval x = .slice (some ⟨b, 0, none⟩) n c) (hy : a.eval y = .int .i64 d) : (execOp a.eval o).run Try.prog w = .ok (.value (.pointer (some ⟨b, d * 10, none⟩))) w := by
  have hdz : (d : Int) < (n : Int) := by omega
  have hc : Try.prog.cellsOf 77 = 10 := by kernel_rfl
  simp only [execOp, ho, hx, hy]
  simp [go_sem, hdz, add_none, hc]
theorem er_cG {w : World} {a : Act} {o : Oper} (x y : Operand) (t u : TypeId) (ho : o.op = .call { callee := .value (.func 16), args := #[x, y], argTypes := #[t, u] }) (v1 v2 : Value) (h1 : a.eval x = v1) (h2 : a.eval y = v2) : (execOp a.eval o).run Try.prog w = .ok (.enter 16 #[v1, v2]) w := by
  subst h1 h2
  simp [execOp, ho, go_sem, Act.eval]
theorem q_ex0 {w : World} {a : Act} {o : Oper} (x : Operand) (ho : o.op = .extract x 0) (u v : Value) (hx : a.eval x = .tuple #[u, v]) : (execOp a.eval o).run Try.prog w = .ok (.value u) w := by
  simp only [execOp, ho, hx]; rfl
theorem q_ex1 {w : World} {a : Act} {o : Oper} (x : Operand) (ho : o.op = .extract x 1) (u v : Value) (hx : a.eval x = .tuple #[u, v]) : (execOp a.eval o).run Try.prog w = .ok (.value v) w := by
  simp only [execOp, ho, hx]; rfl
theorem q_fa1 {w : World} {a : Act} {o : Oper} (x : Operand) (ho : o.op = .fieldAddr 77 x 1) (g off : Nat) (hx : a.eval x = .pointer (some ⟨g, off, none⟩)) : (execOp a.eval o).run Try.prog w = .ok (.value (.pointer (some ⟨g, off + 1, none⟩))) w := by simp only [execOp, ho, hx]; simp [go_sem, add_none]
theorem q_ldi {w : World} {a : Act} {o : Oper} (x : Operand) (ho : o.op = .load 3 x) (g off : Nat) (v : Value) (hx : a.eval x = .pointer (some ⟨g, off, none⟩)) (hr : w.cell? ⟨g, off, none⟩ = some v) : (execOp a.eval o).run Try.prog w = .ok (.value v) w := by
  simp only [execOp, ho, hx]; simp [go_sem, hr]
/-- the state that Get told, in a variable -/
def Sg (B : Nat) (W : World) (sb : Nat) (m yc : Nat) (ya : Option Addr) : Prop := ∃ (X : Pr) (xs : List Value), W.heap[sb]? = some (.cells (X.val (.slice ya m yc)) 48) ∧ W.ownsRow B 2 1 (.slice ya m yc) m xs ∧ B ≤ sb
theorem Sg.turn {B : Nat} {W : World} {sb m yc q : Nat} (h : Sg B W sb m yc (some ⟨q, 0, none⟩)) (j : Nat) (u : Value) : Sg B (W.setCell ⟨q, j, none⟩ u) sb m yc (some ⟨q, 0, none⟩) := by
  obtain ⟨X, xs, h1, h2, h3⟩ := h
  have hq : q ≠ sb := by
    rintro rfl
    obtain ⟨_, ⟨e, _⟩ | ⟨g', cap, cur, e, _, hg, _⟩⟩ := h2
    · cases e
    · injection e with e
      injection e with e
      injection e with e
      subst e
      rw [h1] at hg
      injection hg with hg
      injection hg with _ h9 _
      exact absurd h9 (by decide)
  exact ⟨X, _, ((Kept.refl (fun x => x = q) W).setCell (.inl rfl) _).at' h1 (fun e => hq e.symm), own_set h2 _ _, h3⟩
set_option maxHeartbeats 16000000 in
theorem apart_law {F : Nat → Prop} {A : Array Value} {ca pa sa : Option Addr} {cn0 cc0 n0 pc0 sn sc : Nat} {hd : Int} {qs0 : Nat → Ql} {st : Nat → Sp} (w : World) (hA : A.size = 21) (h7 : A[7]? = some (.slice ca cn0 cc0)) (h8 : A[8]? = some (.slice pa n0 pc0)) (h9 : A[9]? = some (.int .i64 hd)) (hc : Ci w F ca cn0 cc0) (hq : Pq w F pa n0 pc0 qs0) (hs : Sq w F sa sn sc st) (hF : ∀ j, F j → j < w.heap.size) :
    Calls Try.prog 6 #[.agg A, .slice sa sn sc] w fun e w' => e = .returned (.bool true) ∧ Kept No w w' := by
  obtain ⟨w0, e0⟩ : ∃ w0, w0 = w.alloc (.cells A 38) := ⟨_, rfl⟩
  have k0 : Kept No w w0 := by rw [e0]; exact (Kept.refl No w).alloc _
  have B0 : w0.heap[w.heap.size]? = some (.cells A 38) := by rw [e0]; exact alloc_new w _
  have hs0 : Sq w0 F sa sn sc st := ⟨hs.cap, hs.max, fun i hi => by
    obtain ⟨b, o, da, dn, dc, e, hb, hc, hz⟩ := hs.at' i hi
    refine ⟨b, o, da, dn, dc, e, hb, fun j hj => ?_, hz.kept k0 (fun _ _ e => e)⟩
    have hv : ((st i).row (.slice da dn dc))[j]? = some (((st i).row (.slice da dn dc))[j]'(by show j < 10; exact hj)) := Array.getElem?_eq_getElem _
    rw [hv]
    exact k0.cell ((hc j hj).trans hv) (fun e => e)⟩
  have cu := cut_any w0 hs0
  have P0 := hid (And.intro hA (And.intro h7 (And.intro h8 h9)))
  have HC := hid (And.intro (hc.keep k0) (pq_kept hq k0))
  have HB := hid B0
  have HK := hid k0
  have HF := hid hF
  have S0 : Hid (w.heap.size < w0.heap.size) := heap_lt B0
  clear hs hs0 hc hq h7 h8 h9 hA B0 k0 hF
  go_enter Try.func6, Try.ntmps6
  go_upto_region 1 with fail
  rw [← e0]
  clear e0
  go_upto_region 2 with (go_at_call 26; refine cu.mono ?_; rintro e w1 ⟨N, va, vc, st1, ds, hN, rfl, ct⟩; have CT := hid ct; clear ct cu)
  have k1 := CT.out.2.1
  have b1 := k1.at' HB.out (fun e => e)
  have LD1 := hid (ldP b1 P0.out.1)
  have md := made_any w1 P0.out.1 P0.out.2.1 P0.out.2.2.1 P0.out.2.2.2 (HC.out.1.keep k1) (pq_kept HC.out.2 k1) (fun j hj => by have := HF.out j hj; have := S0.out; have := k1.size; omega)
  have K1 := hid k1
  clear k1 b1 HC
  go_cut [6] (fun v wd => ∃ (cn n gc cc gp pc pb : Nat) (us : List Value) (qs : Nat → Ql) (h' : Int) (w2 : World), v = .pointer (some ⟨pb, 0, none⟩) ∧ Rt w1 w2 cn n gc cc gp pc us qs h' ∧ pb = w2.heap.size ∧ Kept No w2 wd ∧ wd.heap[pb]? = some (.cells (QA (.slice (some ⟨gc, 0, none⟩) cn cc) (.slice (some ⟨gp, 0, none⟩) n pc) h') 38))
  case first =>
    refine wp_region_lit ?_
    refine l_take 29 rfl rfl (er_ld 38 (.tmp 2) rfl (.pointer (some ⟨w.heap.size, 0, none⟩)) (.agg A) rfl LD1.out) ?_
    simp only [Act.put, List.setIfInBounds_toArray, List.set_cons_zero, List.set_cons_succ]
    refine l_call 30 rfl rfl (er_cM (.tmp 29) 38 rfl (.agg A) rfl) md ?_
    rintro e w2 ⟨cn, n, gc, cc, gp, pc, us, qs, h', rfl, R⟩
    refine ⟨_, rfl, ?_⟩
    simp only [Act.put, List.setIfInBounds_toArray, List.set_cons_zero, List.set_cons_succ]
    refine list_make rfl 6 rfl (er_alP rfl) ?_
    simp only [Act.put, List.setIfInBounds_toArray, List.set_cons_zero, List.set_cons_succ]
    refine wpList_store_row rfl 38 (.tmp 6) (.tmp 30) rfl w2.heap.size (QA (.slice (some ⟨gc, 0, none⟩) cn cc) (.slice (some ⟨gp, 0, none⟩) n pc) h') rfl rfl _ Z21 (alloc_new w2 _) Try.info21 rfl (qa_one _ _ _ _ _ _ h') ?_
    simp only [Act.put]
    have F1 := hid R
    clear R md
    go_wp2
    go_meet
    exact ⟨cn, n, gc, cc, gp, pc, w2.heap.size, us, qs, h', w2, rfl, F1.out, rfl, ((Kept.refl No w2).alloc _).setRow (.inr (Nat.le_refl _)) _, setRow_heap _ _ Z21 _ _ (0, 0) (alloc_new w2 _)⟩
  case rest =>
  rename World => w3
  clear md LD1
  obtain ⟨cn, n, gc, cc, gp, pc, pb, us, qs, h', w2, rfl, R, epb, k3, hpb⟩ := hcut
  have R3 : Rt w1 w3 cn n gc cc gp pc us qs h' := ⟨k3.owns R.co (fun _ _ e => e), k3.owns R.ow (fun _ _ e => e), R.us1, R.cn1, R.n1, R.hd1, R.qk, R.hk.trans k3 (fun _ e => .inl e)⟩
  have LD2 := hid (ldP hpb rfl)
  have cp := copy_any R3
  have RR := hid R3
  have HPB := hid hpb
  clear R k3 R3 hpb epb
  go_upto_region 3 with fail
  have S1 : Hid (w1.heap.size ≤ w3.heap.size) := RR.out.hk.size
  have S2 : Hid (pb < w3.heap.size) := heap_lt HPB.out
  go_cut [7] (fun v wd => ∃ (b g cap : Nat), v = .pointer (some ⟨b, 0, none⟩) ∧ Tw wd b g cap { ps := fun i => (qs i).pr, n := n, cd := cn, hd := h', lk := 0, pl := 1 } ∧ w1.heap.size ≤ b ∧ w1.heap.size ≤ g ∧ Kept No w3 wd)
  case first =>
    refine wp_region_lit ?_
    refine l_take 31 rfl rfl (er_ld 38 (.tmp 6) rfl (.pointer (some ⟨pb, 0, none⟩)) (.agg (QA (.slice (some ⟨gc, 0, none⟩) cn cc) (.slice (some ⟨gp, 0, none⟩) n pc) h')) rfl LD2.out) ?_
    simp only [Act.put, List.setIfInBounds_toArray, List.set_cons_zero, List.set_cons_succ]
    refine l_call 32 rfl rfl (er_cC (.tmp 31) 38 rfl (.agg (QA (.slice (some ⟨gc, 0, none⟩) cn cc) (.slice (some ⟨gp, 0, none⟩) n pc) h')) rfl) cp ?_
    rintro e w4 ⟨gc', cc', gp', pc', rfl, hcc, pq, hgp, k4⟩
    refine ⟨_, rfl, ?_⟩
    simp only [Act.put, List.setIfInBounds_toArray, List.set_cons_zero, List.set_cons_succ]
    refine l_call 33 rfl rfl (er_cN (.tmp 32) 38 rfl (.agg (QA (.slice (some ⟨gc', 0, none⟩) cn cc') (.slice (some ⟨gp', 0, none⟩) n pc') h')) rfl) (new_any (ca := some ⟨gc', 0, none⟩) (pa := some ⟨gp', 0, none⟩) (cn := cn) (cc := cc') (n := n) (pc := pc') (hd := h') w4 rfl rfl rfl rfl hcc pq (fun j e => by rw [e]; exact hgp) RR.out.n1.1 (by have := RR.out.n1; omega)) ?_
    rintro e w5 ⟨rfl, g, cap, tw, hg, k5⟩
    refine ⟨_, rfl, ?_⟩
    simp only [Act.put, List.setIfInBounds_toArray, List.set_cons_zero, List.set_cons_succ]
    have TT := hid (And.intro tw (And.intro hg (k4.trans k5 (fun _ e => .inl e))))
    have s2 := k4.size
    clear tw k5 k4 pq hcc hgp cp hg
    have s1 := S1.out
    go_wp2
    go_meet
    exact ⟨w4.heap.size + 1, g, cap, rfl, TT.out.1, by omega, by have := TT.out.2.1; omega, TT.out.2.2⟩
  case rest =>
  rename World => w6
  clear cp LD2
  obtain ⟨b, g, cap, rfl, ta, lb, lg, k6⟩ := hcut
  have R6 : Rt w1 w6 cn n gc cc gp pc us qs h' := ⟨k6.owns RR.out.co (fun _ _ e => e), k6.owns RR.out.ow (fun _ _ e => e), RR.out.us1, RR.out.cn1, RR.out.n1, RR.out.hd1, RR.out.qk, RR.out.hk.trans k6 (fun _ e => .inl e)⟩
  have cp := copy_any R6
  have HPC := k6.at' HPB.out (fun e => e)
  have LD2 := hid (ldP HPC rfl)
  have RS := hid R6
  have TA := hid (And.intro ta (And.intro lb lg))
  have K6 := hid k6
  clear R6 HPC ta lb lg k6
  go_upto_region 4 with fail
  go_cut [8] (fun v wd => ∃ (b' g' cap' B C : Nat), v = .pointer (some ⟨b', 0, none⟩) ∧ La w wd F N va vc st1 ds b g cap b' g' cap' { ps := fun i => (qs i).pr, n := n, cd := cn, hd := h', lk := 0, pl := 1 } { ps := fun i => (qs i).pr, n := n, cd := cn, hd := h', lk := 0, pl := 1 } 0 0 B C n)
  case first =>
    refine wp_region_lit ?_
    refine l_take 34 rfl rfl (er_ld 38 (.tmp 6) rfl (.pointer (some ⟨pb, 0, none⟩)) (.agg (QA (.slice (some ⟨gc, 0, none⟩) cn cc) (.slice (some ⟨gp, 0, none⟩) n pc) h')) rfl LD2.out) ?_
    simp only [Act.put, List.setIfInBounds_toArray, List.set_cons_zero, List.set_cons_succ]
    refine l_call 35 rfl rfl (er_cC (.tmp 34) 38 rfl (.agg (QA (.slice (some ⟨gc, 0, none⟩) cn cc) (.slice (some ⟨gp, 0, none⟩) n pc) h')) rfl) cp ?_
    rintro e w4 ⟨gc', cc', gp', pc', rfl, hcc, pq, hgp, k4⟩
    refine ⟨_, rfl, ?_⟩
    simp only [Act.put, List.setIfInBounds_toArray, List.set_cons_zero, List.set_cons_succ]
    refine l_call 36 rfl rfl (er_cN (.tmp 35) 38 rfl (.agg (QA (.slice (some ⟨gc', 0, none⟩) cn cc') (.slice (some ⟨gp', 0, none⟩) n pc') h')) rfl) (new_any (ca := some ⟨gc', 0, none⟩) (pa := some ⟨gp', 0, none⟩) (cn := cn) (cc := cc') (n := n) (pc := pc') (hd := h') w4 rfl rfl rfl rfl hcc pq (fun j e => by rw [e]; exact hgp) RR.out.n1.1 (by have := RR.out.n1; omega)) ?_
    rintro e w5 ⟨rfl, g2, cap2, tw, hg, k5⟩
    refine ⟨_, rfl, ?_⟩
    simp only [Act.put, List.setIfInBounds_toArray, List.set_cons_zero, List.set_cons_succ]
    have L0 : Hid (La w w5 F N va vc st1 ds b g cap (w4.heap.size + 1) g2 cap2 { ps := fun i => (qs i).pr, n := n, cd := cn, hd := h', lk := 0, pl := 1 } { ps := fun i => (qs i).pr, n := n, cd := cn, hd := h', lk := 0, pl := 1 } 0 0 w1.heap.size w5.heap.size n) := by
      have k45 : Kept No w6 w5 := k4.trans k5 (fun _ e => .inl e)
      have k15 : Kept No w1 w5 := RS.out.hk.trans k45 (fun _ e => .inl e)
      have k05 : Kept No w w5 := (HK.out.trans K1.out (fun _ e => .inl e)).trans k15 (fun _ e => .inl e)
      have l1 := CT.out.1.lt
      have s1 := RS.out.hk.size
      have s2 := k4.size
      have s3 := K1.out.size
      have s4 := S0.out
      have ta := TA.out.1.keep k45
      have a1 := TA.out.1.low
      have a2 := ta.low
      have a3 := tw.low
      have a4 := TA.out.2
      have s5 := S1.out
      refine ⟨k05, own_dn (k15.owns CT.out.1 (fun _ _ e => e)) (by omega), fun j hj => ?_, ta, tw, sd_new RR.out.qk RR.out.hd1, sd_new RR.out.qk RR.out.hd1, (fun i x hx => by cases hx), (fun i x hx => by cases hx), ⟨fun j hj => (l1 j hj).2, by omega, by omega, by omega, by omega, by omega⟩, by omega, by omega, ⟨rfl, rfl⟩, HF.out⟩
      obtain ⟨da, dn, dc, e, h, z⟩ := CT.out.2.2 j hj
      exact ⟨da, dn, dc, e, h, z.kept (K1.out.trans k15 (fun _ e => .inl e)) (fun _ _ e => e)⟩
    clear tw k5 k4 pq hcc hgp cp hg
    go_wp2
    go_meet
    exact ⟨w4.heap.size + 1, g2, cap2, w1.heap.size, w5.heap.size, rfl, L0.out⟩
  case rest =>
  rename World => w7
  clear cp LD2 HPB CT K1 HB HK S0 S1 S2 TA K6 RS
  obtain ⟨b', g', cap', B, C, rfl, l0⟩ := hcut
  have hn16 := RR.out.n1.2
  have hn1 := RR.out.n1.1
  have L0 := hid l0
  clear l0 RR
  have kn := known_any w7
  go_upto_region 5 with fail
  go_cut [46] (fun x wd => x = .bool false ∧ La w wd F N va vc st1 ds b g cap b' g' cap' { ps := fun i => (qs i).pr, n := n, cd := cn, hd := h', lk := 0, pl := 1 } { ps := fun i => (qs i).pr, n := n, cd := cn, hd := h', lk := 0, pl := 1 } 0 0 B C n)
  case first =>
    go_wp2_with (go_at_call 9; refine kn.mono ?_; rintro e w8 ⟨rfl, k8⟩; have L8 := hid (L0.out.keep k8); clear k8 kn)
    go_meet
    exact ⟨rfl, L8.out⟩
  case rest =>
  clear L0 kn
  obtain ⟨rfl, l1⟩ := hcut
  have L1 := hid l1
  clear l1
  go_wp2
  go_loopw [9] (fun i wr => ∃ (k : Nat) (T U : Tt), k ≤ N ∧ i = .int .i64 k ∧ T.bl = U.bl ∧ La w wr F N va vc st1 ds b g cap b' g' cap' T U k k B C n) (fun i _ => N - (intOf i).toNat)
  case atStart => exact ⟨0, _, _, Nat.zero_le _, rfl, rfl, L1.out⟩
  case round =>
    clear L1
    rename World => w8
    obtain ⟨k, T, U, hk, rfl, hbl, l⟩ := hrel
    by_cases hlt : k < N
    · have hltz : (k : Int) < (N : Int) := by omega
      obtain ⟨gl, da, dn, dc, rfl, hdn, hz, hrg, hv1, hv2⟩ := l.step hlt
      have LDs := hid (ldStep hrg)
      have pl := l.callA (k := k) (by omega) hn16 hz hdn
      have BL := hid hbl
      clear hbl l hz hrg
      go_upto_region 10 with fail
      refine wp_region_lit ?_
      refine l_take 53 rfl rfl (q_mvv _ rfl (.pointer (some ⟨b, 0, none⟩)) rfl) ?_
      simp only [Act.put, List.setIfInBounds_toArray, List.set_cons_zero, List.set_cons_succ]
      refine l_take 54 rfl rfl (q_mvv _ rfl (.slice (some ⟨gl, 0, none⟩) N vc) rfl) ?_
      simp only [Act.put, List.setIfInBounds_toArray, List.set_cons_zero, List.set_cons_succ]
      refine l_take 55 rfl rfl (q_mvv _ rfl (.int .i64 k) rfl) ?_
      simp only [Act.put, List.setIfInBounds_toArray, List.set_cons_zero, List.set_cons_succ]
      refine l_take 56 rfl rfl (q_ixS _ _ rfl gl N vc k hlt (by omega) rfl rfl) ?_
      simp only [Act.put, List.setIfInBounds_toArray, List.set_cons_zero, List.set_cons_succ]
      refine l_take 57 rfl rfl (er_ld 77 (.tmp 56) rfl (.pointer (some ⟨gl, k * 10, none⟩)) (.agg ((st1 k).row (.slice da dn dc))) rfl LDs.out) ?_
      simp only [Act.put, List.setIfInBounds_toArray, List.set_cons_zero, List.set_cons_succ]
      refine l_call 58 rfl rfl (er_cPl (.tmp 53) (.tmp 57) 22 77 rfl (.pointer (some ⟨b, 0, none⟩)) (.agg ((st1 k).row (.slice da dn dc))) rfl rfl) pl ?_
      rintro e w9 ⟨x1, T1, v1, rfl, hx1, hT1, l9, _⟩
      refine ⟨_, rfl, ?_⟩
      simp only [Act.put, List.setIfInBounds_toArray, List.set_cons_zero, List.set_cons_succ]
      generalize Value.agg ((st1 k).row (.slice da dn dc)) = vrow at *
      have hT16 : T1.n ≤ 16 := by rw [l9.tn.1]; exact hn16
      have hT1n : 1 ≤ T1.n := by rw [l9.tn.1]; exact hn1
      have X1 := hid (And.intro hx1 hT1)
      have st0 := states_any w9 l9.ta (by omega) (fun i hi => by have := (l9.sa.each i hi).ws; omega)
      have L9 := hid l9
      clear l9 pl LDs hx1 hT1
      go_upto_region 12 with (go_at_call 30; refine st0.mono ?_; rintro e w10 ⟨la, lc, lds, rfl, sl⟩; have SL := hid sl; clear sl st0)
      obtain ⟨gl2, rfl, tl⟩ := SL.out.tl hT1n
      obtain ⟨ms, hms⟩ : ∃ ms : Nat → Nat, ms = fun j => (T1.ps j).ws.length := ⟨_, rfl⟩
      have HM : Hid (∀ j, j < T1.n → ms j ≤ 1000) := fun j hj => by rw [hms]; exact (L9.out.sa.each j hj).ws
      rw [← hms] at tl
      have TL := hid (And.intro tl SL.out.2.1)
      clear tl hms SL
      go_wp2
      go_loopw [14] (fun i wr => ∃ (j : Nat), j ≤ T1.n ∧ i = .int .i64 j ∧ Tl w9.heap.size wr T1.n gl2 lc lds ms ∧ Kept No w9 wr) (fun i _ => T1.n - (intOf i).toNat)
      case atStart => exact ⟨0, Nat.zero_le _, rfl, TL.out.1, TL.out.2⟩
      case round =>
        clear TL
        rename World => w11
        obtain ⟨j, hj, rfl, tl, k11⟩ := hrel
        by_cases hlt2 : j < T1.n
        · have hltz2 : (j : Int) < (T1.n : Int) := by omega
          obtain ⟨ya, yc, xs0, ed, ow0⟩ := tl.wd j hlt2
          have hm := HM.out j hlt2
          have ED := hid ed
          have hcp := tl.cap
          have TL := hid (And.intro tl k11)
          clear tl k11 ow0 ed
          generalize hmj : ms j = m at *
          have MJ := hid hmj
          clear hmj
          go_wp2
          go_loopw [15] (fun i wr => ∃ (x : Nat), x ≤ m ∧ i = .int .i64 x ∧ Tl w9.heap.size wr T1.n gl2 lc lds ms ∧ Kept No w9 wr) (fun i _ => m - (intOf i).toNat)
          case atStart => exact ⟨0, Nat.zero_le _, rfl, TL.out.1, TL.out.2⟩
          case round =>
            clear TL
            rename World => w12
            obtain ⟨x, hx, rfl, tl, k12⟩ := hrel
            have c26 := tl.at26 hlt2
            obtain ⟨ya', yc', xs, ed', ow⟩ := tl.wd j hlt2
            rw [ED.out] at c26 ow
            rw [MJ.out] at ow
            clear ed' ya' yc'
            have hcp2 := own_cap ow
            by_cases hlt3 : x < m
            · have hltz3 : (x : Int) < (m : Int) := by omega
              obtain ⟨q, rfl, hBq⟩ := own_at0 ow (by omega)
              have hxl : x < xs.length := by rw [ow.1]; omega
              have cx := own_cell ow (List.getElem?_eq_getElem hxl)
              have fx := own_fz ow x
              generalize xs[x] = ux at *
              have TL2 : Hid (Tl w9.heap.size (w12.setCell ⟨q, x, none⟩ (.int .i64 (-2))) T1.n gl2 lc lds ms ∧ Kept No w9 (w12.setCell ⟨q, x, none⟩ (.int .i64 (-2)))) := by
                have o2 := own_set ow x (.int .i64 (-2))
                refine ⟨tl.one hlt2 (((Kept.refl (fun y => (lds j).ownBlock = some y) w12).setCell (.inl (by rw [ED.out]; rfl)) _)) (by rw [ED.out, MJ.out]; exact o2), k12.setCell (.inr hBq) _⟩
              clear tl k12 ow hxl
              go_wp2
              go_roundw
              case rel => exact ⟨x + 1, by omega, by go_num, TL2.out.1, TL2.out.2⟩
              case measure => simp [intOf]; omega
            · have hltz3 : ¬ (x : Int) < (m : Int) := by omega
              have HO := hid (And.intro ow (And.intro tl k12))
              clear ow tl k12
              go_wp2_with (at_builtin; go_must (refine wpList_appZ rfl _ _ rfl w9.heap.size (.slice ya m yc) m xs rfl rfl HO.out.1 (by omega) ?_); intro za zc w13 o13 k13; have tl13 := HO.out.2.1.one hlt2 (k13.out.mono (fun y e => by rw [ED.out]; exact e)) (by rw [ED.out, MJ.out]; exact o13.out); obtain ⟨u2, c2⟩ := tl13.at2 hlt2; have f2 := tl13.fz (j * 28 + 2); have k14 : Kept No w9 w13 := HO.out.2.2.trans k13.out (fun y e => .inr (owns_lo HO.out.1 e)); have TL13 := hid (And.intro tl13 k14); clear tl13 k14 o13 k13)
              refine ⟨⟨j + 1, by omega, by go_num, TL13.out.1.place hlt2 _, TL13.out.2.setCell (.inr TL13.out.1.lo) _⟩, ?_⟩
              simp [intOf]; omega
        · have hltz2 : ¬ (j : Int) < (T1.n : Int) := by omega
          have l11 := L9.out.keep k11
          obtain ⟨da2, dn2, dc2, hdn2, hz2, hrg2⟩ := l11.step1 hlt
          have cp : w11.cell? ⟨gl, k * 10 + 1, none⟩ = some (.int .i64 (st1 k).p) := hrg2 1 _ rfl
          have gt := get_any w11 l11.ta (by omega) (fun i hi => by have := (l11.sa.each i hi).ws; omega) (st1 k).p
          have L11 := hid l11
          clear l11 k11 tl hrg2 hz2 L9
          go_upto_region 21 with fail
          refine wp_region_lit ?_
          refine l_take 102 rfl rfl (q_mvv _ rfl (.pointer (some ⟨b, 0, none⟩)) rfl) ?_
          simp only [Act.put, List.setIfInBounds_toArray, List.set_cons_zero, List.set_cons_succ]
          refine l_take 103 rfl rfl (q_mvv _ rfl (.slice (some ⟨gl, 0, none⟩) N vc) rfl) ?_
          simp only [Act.put, List.setIfInBounds_toArray, List.set_cons_zero, List.set_cons_succ]
          refine l_take 104 rfl rfl (q_mvv _ rfl (.int .i64 k) rfl) ?_
          simp only [Act.put, List.setIfInBounds_toArray, List.set_cons_zero, List.set_cons_succ]
          refine l_take 105 rfl rfl (q_ixS _ _ rfl gl N vc k hlt (by omega) rfl rfl) ?_
          simp only [Act.put, List.setIfInBounds_toArray, List.set_cons_zero, List.set_cons_succ]
          refine l_take 106 rfl rfl (q_fa1 _ rfl gl (k * 10) rfl) ?_
          simp only [Act.put, List.setIfInBounds_toArray, List.set_cons_zero, List.set_cons_succ]
          refine l_take 107 rfl rfl (q_ldi _ rfl gl (k * 10 + 1) (.int .i64 (st1 k).p) rfl cp) ?_
          simp only [Act.put, List.setIfInBounds_toArray, List.set_cons_zero, List.set_cons_succ]
          refine l_call 108 rfl rfl (er_cG (.tmp 102) (.tmp 107) 22 3 rfl (.pointer (some ⟨b, 0, none⟩)) (.int .i64 (st1 k).p) rfl rfl) gt ?_
          rintro e w14 ⟨X, ya, m, yc, xs, ok, rfl, o14, k14⟩
          refine ⟨_, rfl, ?_⟩
          simp only [Act.put, List.setIfInBounds_toArray, List.set_cons_zero, List.set_cons_succ]
          refine l_take 101 rfl rfl (q_mvv _ rfl (.tuple #[.agg (X.val (.slice ya m yc)), .bool ok]) rfl) ?_
          simp only [Act.put, List.setIfInBounds_toArray, List.set_cons_zero, List.set_cons_succ]
          refine l_take 109 rfl rfl (q_ex0 _ rfl (.agg (X.val (.slice ya m yc))) (.bool ok) rfl) ?_
          simp only [Act.put, List.setIfInBounds_toArray, List.set_cons_zero, List.set_cons_succ]
          refine l_take 110 rfl rfl (q_ex1 _ rfl (.agg (X.val (.slice ya m yc))) (.bool ok) rfl) ?_
          simp only [Act.put, List.setIfInBounds_toArray, List.set_cons_zero, List.set_cons_succ]
          refine list_make rfl 17 rfl (er_alS rfl) ?_
          simp only [Act.put, List.setIfInBounds_toArray, List.set_cons_zero, List.set_cons_succ]
          refine wpList_store_row rfl 48 (.tmp 17) (.tmp 109) rfl w14.heap.size (X.val (.slice ya m yc)) rfl rfl _ Z28 (alloc_new w14 _) Try.info48 rfl (val_one _) ?_
          simp only [Act.put]
          rw [show (w14.alloc (.cells Z28 48)).setRow w14.heap.size (X.val (.slice ya m yc)) = put28 w14 (X.val (.slice ya m yc)) from rfl]
          have kp := put28_kept w14 (X.val (.slice ya m yc))
          have SG : Hid (Sg w11.heap.size (put28 w14 (X.val (.slice ya m yc))) w14.heap.size m yc ya ∧ Kept No w11 (put28 w14 (X.val (.slice ya m yc)))) := ⟨⟨X, xs, put28_at w14 _, kp.owns o14 (fun _ _ e => e), k14.size⟩, k14.trans kp (fun _ e => .inl e)⟩
          have hcp2 := own_cap o14
          clear kp o14 k14 gt cp
          generalize put28 w14 (X.val (.slice ya m yc)) = w15 at *
          generalize Value.agg (X.val (.slice ya m yc)) = vX at *
          generalize w14.heap.size = sb at *
          go_wp2
          go_loopw [19] (fun i wr => ∃ (x : Nat), x ≤ m ∧ i = .int .i64 x ∧ Sg w11.heap.size wr sb m yc ya ∧ Kept No w11 wr) (fun i _ => m - (intOf i).toNat)
          case atStart => exact ⟨0, Nat.zero_le _, rfl, SG.out.1, SG.out.2⟩
          case round =>
            clear SG
            rename World => w16
            obtain ⟨x, hx, rfl, sg, k16⟩ := hrel
            have c26 : w16.cell? ⟨sb, 26, none⟩ = some (.slice ya m yc) := by obtain ⟨X, _, h1, _⟩ := sg; exact cell_row h1 rfl
            by_cases hlt3 : x < m
            · have hltz3 : (x : Int) < (m : Int) := by omega
              obtain ⟨q, ux, rfl, hBq, cx, fx⟩ : ∃ q ux, ya = some ⟨q, 0, none⟩ ∧ w11.heap.size ≤ q ∧ w16.cell? ⟨q, x, none⟩ = some ux ∧ w16.frozen? ⟨q, x, none⟩ = false := by
                obtain ⟨X, xs, h1, ow, _⟩ := sg
                obtain ⟨q, rfl, hBq⟩ := own_at0 ow (by omega)
                have hxl : x < xs.length := by rw [ow.1]; omega
                exact ⟨q, xs[x], rfl, hBq, own_cell ow (List.getElem?_eq_getElem hxl), own_fz ow x⟩
              have SG2 : Hid (Sg w11.heap.size (w16.setCell ⟨q, x, none⟩ (.int .i64 (-3))) sb m yc (some ⟨q, 0, none⟩) ∧ Kept No w11 (w16.setCell ⟨q, x, none⟩ (.int .i64 (-3)))) := ⟨sg.turn x _, k16.setCell (.inr hBq) _⟩
              clear sg k16
              go_wp2
              go_roundw
              case rel => exact ⟨x + 1, by omega, by go_num, SG2.out.1, SG2.out.2⟩
              case measure => simp [intOf]; omega
            · have hltz3 : ¬ (x : Int) < (m : Int) := by omega
              have l16 := L11.out.keep k16
              obtain ⟨da3, dn3, dc3, hdn3, hz3, hrg3⟩ := l16.step1 hlt
              have LDt := hid (ldStep hrg3)
              have pl := l16.callB (k := k) (by omega) hn16 hz3 hdn3
              clear l16 sg k16 hz3 hrg3 L11
              go_upto_region 26 with fail
              refine wp_region_lit ?_
              refine l_take 122 rfl rfl (q_mvv _ rfl (.pointer (some ⟨b', 0, none⟩)) rfl) ?_
              simp only [Act.put, List.setIfInBounds_toArray, List.set_cons_zero, List.set_cons_succ]
              refine l_take 123 rfl rfl (q_mvv _ rfl (.slice (some ⟨gl, 0, none⟩) N vc) rfl) ?_
              simp only [Act.put, List.setIfInBounds_toArray, List.set_cons_zero, List.set_cons_succ]
              refine l_take 124 rfl rfl (q_mvv _ rfl (.int .i64 k) rfl) ?_
              simp only [Act.put, List.setIfInBounds_toArray, List.set_cons_zero, List.set_cons_succ]
              refine l_take 125 rfl rfl (q_ixS _ _ rfl gl N vc k hlt (by omega) rfl rfl) ?_
              simp only [Act.put, List.setIfInBounds_toArray, List.set_cons_zero, List.set_cons_succ]
              refine l_take 126 rfl rfl (er_ld 77 (.tmp 125) rfl (.pointer (some ⟨gl, k * 10, none⟩)) (.agg ((st1 k).row (.slice da3 dn3 dc3))) rfl LDt.out) ?_
              simp only [Act.put, List.setIfInBounds_toArray, List.set_cons_zero, List.set_cons_succ]
              refine l_call 127 rfl rfl (er_cPl (.tmp 122) (.tmp 126) 22 77 rfl (.pointer (some ⟨b', 0, none⟩)) (.agg ((st1 k).row (.slice da3 dn3 dc3))) rfl rfl) pl ?_
              rintro e w17 ⟨y1, U1, v2, rfl, hy1, hU1, l17⟩
              refine ⟨_, rfl, ?_⟩
              simp only [Act.put, List.setIfInBounds_toArray, List.set_cons_zero, List.set_cons_succ]
              generalize Value.agg ((st1 k).row (.slice da3 dn3 dc3)) = vrow2 at *
              have bb := bl_both BL.out (st1 k) v1 v2
              obtain rfl : x1 = y1 := by rw [X1.out.1, hy1]; exact bb.1
              have B2 : Hid (T1.bl = U1.bl) := by show T1.bl = U1.bl; rw [X1.out.2, hU1]; exact bb.2
              have en := l17.tn
              have enn : Hid (T1.n = U1.n) := by show T1.n = U1.n; rw [en.1, en.2]
              have s1 := states_any w17 l17.ta (by omega) (fun i hi => by have := (l17.sa.each i hi).ws; omega)
              have L17 := hid l17
              clear l17 pl LDt hy1 hU1 X1 BL bb en
              go_upto_region 28 with (go_at_call 30; refine s1.mono ?_; rintro e w18 ⟨ma, mc, mds, rfl, sm⟩; have SM := hid sm; clear sm s1)
              have l18 := L17.out.keep SM.out.2.1
              have s2 := states_any w18 l18.tb (by have := enn.out; omega) (fun i hi => by have := (l18.sb.each i hi).ws; omega)
              rw [← enn.out] at s2
              have L18 := hid l18
              clear l18 L17
              go_upto_region 29 with (go_at_call 30; refine s2.mono ?_; rintro e w19 ⟨na, nc, nds, rfl, sn'⟩; have SN := hid sn'; clear sn' s2)
              have al := alike_any (SM.out.keep SN.out.2.1) (SN.out.bl B2.out.symm) (by omega)
              have L19 := hid (L18.out.keep SN.out.2.1)
              clear L18
              cases x1
              · go_wp2_with (go_at_call 31; refine al.mono ?_; rintro e w20 ⟨rfl, k20⟩; have L20 := hid (L19.out.keep k20); clear k20 al)
                refine ⟨⟨k + 1, T1, U1, by omega, by go_num, B2.out, L20.out⟩, ?_⟩
                simp [intOf]; omega
              · go_wp2_with (go_at_call 31; refine al.mono ?_; rintro e w20 ⟨rfl, k20⟩; have L20 := hid (L19.out.keep k20); clear k20 al)
                refine ⟨⟨k + 1, T1, U1, by omega, by go_num, B2.out, L20.out⟩, ?_⟩
                simp [intOf]; omega
    · have hltz : ¬ (k : Int) < (N : Int) := by omega
      have LL := hid l
      clear l
      go_wp2
      go_ret
      exact ⟨rfl, LL.out.hk⟩
end Go.Proofs.Ytofkacfchkimiaa
