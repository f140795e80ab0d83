/-
  ProcSound: the walk.
-/
import Derived.Test.YtofkacfchkimiaaPSndL
import Derived.Deep.DeepCutAuto
namespace Go.Proofs.Ytofkacfchkimiaa
open Go.RowKit Plain
set_option linter.unusedVariables false
set_option linter.unusedSimpArgs false
set_option maxRecDepth 100000

theorem er_cM {w : World} {a : Act} {o : Oper} (x : Operand) (t : TypeId) (ho : o.op = .call { callee := .value (.func 27), args := #[x], argTypes := #[t] }) (v : Value) (hx : a.eval x = v) : (execOp a.eval o).run Try.prog w = .ok (.enter 27 #[v]) w := by
  subst hx
  simp [execOp, ho, go_sem, Act.eval]
theorem er_cC {w : World} {a : Act} {o : Oper} (x : Operand) (t : TypeId) (ho : o.op = .call { callee := .value (.func 28), args := #[x], argTypes := #[t] }) (v : Value) (hx : a.eval x = v) : (execOp a.eval o).run Try.prog w = .ok (.enter 28 #[v]) w := by
  subst hx
  simp [execOp, ho, go_sem, Act.eval]
theorem er_cN {w : World} {a : Act} {o : Oper} (x : Operand) (t : TypeId) (ho : o.op = .call { callee := .value (.func 8), args := #[x], argTypes := #[t] }) (v : Value) (hx : a.eval x = v) : (execOp a.eval o).run Try.prog w = .ok (.enter 8 #[v]) w := by
  subst hx
  simp [execOp, ho, go_sem, Act.eval]
theorem q_eqn {w : World} {a : Act} {o : Oper} (x : Operand) (ho : o.op = .binOp .eql 22 x (.const (.pointer none)) 22) (b : Nat) (hx : a.eval x = .pointer (some ⟨b, 0, none⟩)) : (execOp a.eval o).run Try.prog w = .ok (.value (.bool false)) w := by
  simp only [execOp, ho, hx]; simp [go_sem, Act.eval]
theorem q_not {w : World} {a : Act} {o : Oper} (x : Operand) (ho : o.op = .unOp .not 4 x) (u : Bool) (hx : a.eval x = .bool u) : (execOp a.eval o).run Try.prog w = .ok (.value (.bool (!u))) w := by
  simp only [execOp, ho, hx]
  cases u <;> simp [go_sem]
theorem er_ck {w : World} {a : Act} {o : Oper} (ho : o.op = .call { callee := .value (.func 9), args := #[], argTypes := #[] }) : (execOp a.eval o).run Try.prog w = .ok (.enter 9 #[]) w := by
  simp [execOp, ho, go_sem, Act.eval]
theorem er_cS {w : World} {a : Act} {o : Oper} (x y : Operand) (t u : TypeId) (ho : o.op = .call { callee := .value (.func 32), args := #[x, y], argTypes := #[t, u] }) (v1 v2 : Value) (h1 : a.eval x = v1) (h2 : a.eval y = v2) : (execOp a.eval o).run Try.prog w = .ok (.enter 32 #[v1, v2]) w := by
  subst h1 h2
  simp [execOp, ho, go_sem, Act.eval]
theorem er_cPl {w : World} {a : Act} {o : Oper} (x y : Operand) (t u : TypeId) (ho : o.op = .call { callee := .value (.func 29), args := #[x, y], argTypes := #[t, u] }) (v1 v2 : Value) (h1 : a.eval x = v1) (h2 : a.eval y = v2) : (execOp a.eval o).run Try.prog w = .ok (.enter 29 #[v1, v2]) w := by
  subst h1 h2
  simp [execOp, ho, go_sem, Act.eval]
theorem q_ixS {w : World} {a : Act} {o : Oper} (x y : Operand) (ho : o.op = .indexAddr 72 x y) (b n c d : Nat) (hd : d < n) (hn : n ≤ 9223372036854775807) (hx : a.eval x = .slice (some ⟨b, 0, none⟩) n c) (hy : a.eval y = .int .i64 d) : (execOp a.eval o).run Try.prog w = .ok (.value (.pointer (some ⟨b, d * 10, none⟩))) w := by
  have hdz : (d : Int) < (n : Int) := by omega
  have hc : Try.prog.cellsOf 77 = 10 := by kernel_rfl
  simp only [execOp, ho, hx, hy]
  simp [go_sem, hdz, add_none, hc]
section
variable {w W : World} {F : Nat → Prop} {N : Nat} {va : Option Addr} {vc : Nat} {st : Nat → Sp} {ds : Nat → Value} {pb : Nat} {b g cap : Nat} {T : Tt} {q B n : Nat} {hd : Int} {c : Value} {gp pc : Nat}
theorem Lw.sound (l : Lw w W F N va vc st ds pb (QA c (.slice (some ⟨gp, 0, none⟩) n pc) hd) b g cap T q B n hd) (hn : n ≤ 16) : Calls Try.prog 32 #[.pointer (some ⟨b, 0, none⟩), .agg (QA c (.slice (some ⟨gp, 0, none⟩) n pc) hd)] W fun e w' => e = .returned (.bool true) ∧ Kept No W w' := by
  have e := l.tn
  exact sound_any (pa := some ⟨gp, 0, none⟩) (pc := pc) (by rw [e.1]; rfl) (by rw [e.2]; rfl) W l.tw (by omega) l.sd (by omega)
end
set_option maxHeartbeats 16000000 in
theorem sound_law {F : Nat → Prop} {A : Array Value} {ca pa sa : Option Addr} {cn0 cc0 n0 pc0 sn sc : Nat} {hd : Int} {qs0 : Nat → Ql} {st : Nat → Sp} (w : World) (hA : A.size = 21) (h7 : A[7]? = some (.slice ca cn0 cc0)) (h8 : A[8]? = some (.slice pa n0 pc0)) (h9 : A[9]? = some (.int .i64 hd)) (hc : Ci w F ca cn0 cc0) (hq : Pq w F pa n0 pc0 qs0) (hs : Sq w F sa sn sc st) (hF : ∀ j, F j → j < w.heap.size) :
    Calls Try.prog 7 #[.agg A, .slice sa sn sc] w fun e w' => e = .returned (.bool true) ∧ Kept No w w' := by
  obtain ⟨w0, e0⟩ : ∃ w0, w0 = w.alloc (.cells A 38) := ⟨_, rfl⟩
  have k0 : Kept No w w0 := by rw [e0]; exact (Kept.refl No w).alloc _
  have B0 : w0.heap[w.heap.size]? = some (.cells A 38) := by rw [e0]; exact alloc_new w _
  have hs0 : Sq w0 F sa sn sc st := ⟨hs.cap, hs.max, fun i hi => by
    obtain ⟨b, o, da, dn, dc, e, hb, hc, hz⟩ := hs.at' i hi
    refine ⟨b, o, da, dn, dc, e, hb, fun j hj => ?_, hz.kept k0 (fun _ _ e => e)⟩
    have hv : ((st i).row (.slice da dn dc))[j]? = some (((st i).row (.slice da dn dc))[j]'(by show j < 10; exact hj)) := Array.getElem?_eq_getElem _
    rw [hv]
    exact k0.cell ((hc j hj).trans hv) (fun e => e)⟩
  have cu := cut_any w0 hs0
  have P0 := hid (And.intro hA (And.intro h7 (And.intro h8 h9)))
  have HC := hid (And.intro (hc.keep k0) (pq_kept hq k0))
  have HB := hid B0
  have HK := hid k0
  have HF := hid hF
  have S0 : Hid (w.heap.size < w0.heap.size) := heap_lt B0
  clear hs hs0 hc hq h7 h8 h9 hA B0 k0 hF
  go_enter Try.func7, Try.ntmps7
  go_upto_region 1 with fail
  rw [← e0]
  clear e0
  go_upto_region 2 with (go_at_call 26; refine cu.mono ?_; rintro e w1 ⟨N, va, vc, st1, ds, hN, rfl, ct⟩; have CT := hid ct; clear ct cu)
  have k1 := CT.out.2.1
  have b1 := k1.at' HB.out (fun e => e)
  have LD1 := hid (ldP b1 P0.out.1)
  have md := made_any w1 P0.out.1 P0.out.2.1 P0.out.2.2.1 P0.out.2.2.2 (HC.out.1.keep k1) (pq_kept HC.out.2 k1) (fun j hj => by have := HF.out j hj; have := S0.out; have := k1.size; omega)
  have K1 := hid k1
  clear k1 b1 HC
  go_cut [6] (fun v wd => ∃ (cn n gc cc gp pc pb : Nat) (us : List Value) (qs : Nat → Ql) (h' : Int) (w2 : World), v = .pointer (some ⟨pb, 0, none⟩) ∧ Rt w1 w2 cn n gc cc gp pc us qs h' ∧ pb = w2.heap.size ∧ Kept No w2 wd ∧ wd.heap[pb]? = some (.cells (QA (.slice (some ⟨gc, 0, none⟩) cn cc) (.slice (some ⟨gp, 0, none⟩) n pc) h') 38))
  case first =>
    refine wp_region_lit ?_
    refine l_take 18 rfl rfl (er_ld 38 (.tmp 2) rfl (.pointer (some ⟨w.heap.size, 0, none⟩)) (.agg A) rfl LD1.out) ?_
    simp only [Act.put, List.setIfInBounds_toArray, List.set_cons_zero, List.set_cons_succ]
    refine l_call 19 rfl rfl (er_cM (.tmp 18) 38 rfl (.agg A) rfl) md ?_
    rintro e w2 ⟨cn, n, gc, cc, gp, pc, us, qs, h', rfl, R⟩
    refine ⟨_, rfl, ?_⟩
    simp only [Act.put, List.setIfInBounds_toArray, List.set_cons_zero, List.set_cons_succ]
    refine list_make rfl 6 rfl (er_alP rfl) ?_
    simp only [Act.put, List.setIfInBounds_toArray, List.set_cons_zero, List.set_cons_succ]
    refine wpList_store_row rfl 38 (.tmp 6) (.tmp 19) rfl w2.heap.size (QA (.slice (some ⟨gc, 0, none⟩) cn cc) (.slice (some ⟨gp, 0, none⟩) n pc) h') rfl rfl _ Z21 (alloc_new w2 _) Try.info21 rfl (qa_one _ _ _ _ _ _ h') ?_
    simp only [Act.put]
    have F1 := hid R
    clear R md
    go_wp2
    go_meet
    exact ⟨cn, n, gc, cc, gp, pc, w2.heap.size, us, qs, h', w2, rfl, F1.out, rfl, ((Kept.refl No w2).alloc _).setRow (.inr (Nat.le_refl _)) _, setRow_heap _ _ Z21 _ _ (0, 0) (alloc_new w2 _)⟩
  case rest =>
  clear md LD1
  obtain ⟨cn, n, gc, cc, gp, pc, pb, us, qs, h', w2, rfl, R, epb, k3, hpb⟩ := hcut
  have R3 : Rt w1 wc cn n gc cc gp pc us qs h' := ⟨k3.owns R.co (fun _ _ e => e), k3.owns R.ow (fun _ _ e => e), R.us1, R.cn1, R.n1, R.hd1, R.qk, R.hk.trans k3 (fun _ e => .inl e)⟩
  have LD2 := hid (ldP hpb rfl)
  have cp := copy_any R3
  have RR := hid R3
  have HPB := hid hpb
  clear R k3 R3 hpb epb
  go_upto_region 3 with fail
  go_cut [7] (fun v wd => ∃ (b g cap B : Nat) (T : Tt), v = .pointer (some ⟨b, 0, none⟩) ∧ Lw w wd F N va vc st1 ds pb (QA (.slice (some ⟨gc, 0, none⟩) cn cc) (.slice (some ⟨gp, 0, none⟩) n pc) h') b g cap T 0 B n h')
  case first =>
    refine wp_region_lit ?_
    refine l_take 20 rfl rfl (er_ld 38 (.tmp 6) rfl (.pointer (some ⟨pb, 0, none⟩)) (.agg (QA (.slice (some ⟨gc, 0, none⟩) cn cc) (.slice (some ⟨gp, 0, none⟩) n pc) h')) rfl LD2.out) ?_
    simp only [Act.put, List.setIfInBounds_toArray, List.set_cons_zero, List.set_cons_succ]
    refine l_call 21 rfl rfl (er_cC (.tmp 20) 38 rfl (.agg (QA (.slice (some ⟨gc, 0, none⟩) cn cc) (.slice (some ⟨gp, 0, none⟩) n pc) h')) rfl) cp ?_
    rintro e w4 ⟨gc', cc', gp', pc', rfl, hcc, pq, hgp, k4⟩
    refine ⟨_, rfl, ?_⟩
    simp only [Act.put, List.setIfInBounds_toArray, List.set_cons_zero, List.set_cons_succ]
    refine l_call 22 rfl rfl (er_cN (.tmp 21) 38 rfl (.agg (QA (.slice (some ⟨gc', 0, none⟩) cn cc') (.slice (some ⟨gp', 0, none⟩) n pc') h')) rfl) (new_any (ca := some ⟨gc', 0, none⟩) (pa := some ⟨gp', 0, none⟩) (cn := cn) (cc := cc') (n := n) (pc := pc') (hd := h') w4 rfl rfl rfl rfl hcc pq (fun j e => by rw [e]; exact hgp) RR.out.n1.1 (by have := RR.out.n1; omega)) ?_
    rintro e w5 ⟨rfl, g, cap, tw, hg, k5⟩
    refine ⟨_, rfl, ?_⟩
    simp only [Act.put, List.setIfInBounds_toArray, List.set_cons_zero, List.set_cons_succ]
    have L0 : Hid (Lw w w5 F N va vc st1 ds pb (QA (.slice (some ⟨gc, 0, none⟩) cn cc) (.slice (some ⟨gp, 0, none⟩) n pc) h') (w4.heap.size + 1) g cap { ps := fun i => (qs i).pr, n := n, cd := cn, hd := h', lk := 0, pl := 1 } 0 w4.heap.size n h') := by
      have k45 : Kept No wc w5 := k4.trans k5 (fun _ e => .inl e)
      have k15 : Kept No w1 w5 := RR.out.hk.trans k45 (fun _ e => .inl e)
      have k05 : Kept No w w5 := (HK.out.trans K1.out (fun _ e => .inl e)).trans k15 (fun _ e => .inl e)
      have l1 := CT.out.1.lt
      have s1 := RR.out.hk.size
      have s2 := k4.size
      have s3 := K1.out.size
      have s4 := S0.out
      have s5 := heap_lt HPB.out
      refine ⟨k05, own_dn (k15.owns CT.out.1 (fun _ _ e => e)) (by omega), fun j hj => ?_, k45.at' HPB.out (fun e => e), tw, sd_new RR.out.qk RR.out.hd1, ⟨by omega, fun j hj => by have := l1 j hj; omega, by omega, by omega, by omega⟩, ⟨rfl, rfl⟩, HF.out⟩
      obtain ⟨da, dn, dc, e, h, z⟩ := CT.out.2.2 j hj
      exact ⟨da, dn, dc, e, h, z.kept (K1.out.trans k15 (fun _ e => .inl e)) (fun _ _ e => e)⟩
    clear tw k5 k4 pq hcc hgp cp
    go_wp2
    go_meet
    exact ⟨w4.heap.size + 1, g, cap, w4.heap.size, _, rfl, L0.out⟩
  case rest =>
  clear cp LD2 HPB CT K1 HB HK S0
  obtain ⟨b, g, cap, B, T0, rfl, l0⟩ := hcut
  have hn16 := RR.out.n1.2
  have L0 := hid l0
  clear l0 RR
  go_upto_region 4 with fail
  go_cut [34] (fun x wd => x = .bool false ∧ Lw w wd F N va vc st1 ds pb (QA (.slice (some ⟨gc, 0, none⟩) cn cc) (.slice (some ⟨gp, 0, none⟩) n pc) h') b g cap T0 0 B n h')
  case first =>
    refine wp_region_lit ?_
    refine l_take 23 rfl rfl (q_mvv _ rfl (.pointer (some ⟨b, 0, none⟩)) rfl) ?_
    simp only [Act.put, List.setIfInBounds_toArray, List.set_cons_zero, List.set_cons_succ]
    refine l_take 24 rfl rfl (q_eqn _ rfl b rfl) ?_
    simp only [Act.put, List.setIfInBounds_toArray, List.set_cons_zero, List.set_cons_succ]
    refine l_take 25 rfl rfl (q_mvv _ rfl (.bool false) rfl) ?_
    simp only [Act.put, List.setIfInBounds_toArray, List.set_cons_zero, List.set_cons_succ]
    refine l_call 26 rfl rfl (er_ck rfl) (known_any wc) ?_
    rintro e w6 ⟨rfl, k6⟩
    refine ⟨_, rfl, ?_⟩
    simp only [Act.put, List.setIfInBounds_toArray, List.set_cons_zero, List.set_cons_succ]
    have l6 := L0.out.keep k6
    refine l_take 27 rfl rfl (q_not _ rfl true rfl) ?_
    simp only [Act.put, List.setIfInBounds_toArray, List.set_cons_zero, List.set_cons_succ]
    refine l_take 28 rfl rfl (q_pk _ _ _ rfl false (.bool false) rfl rfl) ?_
    simp only [Act.put, List.setIfInBounds_toArray, List.set_cons_zero, List.set_cons_succ]
    refine l_take 29 rfl rfl (q_mvv _ rfl (.bool false) rfl) ?_
    simp only [Act.put, List.setIfInBounds_toArray, List.set_cons_zero, List.set_cons_succ]
    refine l_take 30 rfl rfl (q_mvv _ rfl (.pointer (some ⟨b, 0, none⟩)) rfl) ?_
    simp only [Act.put, List.setIfInBounds_toArray, List.set_cons_zero, List.set_cons_succ]
    refine l_take 31 rfl rfl (er_ld 38 (.tmp 6) rfl (.pointer (some ⟨pb, 0, none⟩)) (.agg (QA (.slice (some ⟨gc, 0, none⟩) cn cc) (.slice (some ⟨gp, 0, none⟩) n pc) h')) rfl (ldP l6.pn rfl)) ?_
    simp only [Act.put, List.setIfInBounds_toArray, List.set_cons_zero, List.set_cons_succ]
    refine l_call 32 rfl rfl (er_cS (.tmp 30) (.tmp 31) 22 38 rfl (.pointer (some ⟨b, 0, none⟩)) (.agg (QA (.slice (some ⟨gc, 0, none⟩) cn cc) (.slice (some ⟨gp, 0, none⟩) n pc) h')) rfl rfl) (l6.sound hn16) ?_
    rintro e w7 ⟨rfl, k7⟩
    refine ⟨_, rfl, ?_⟩
    simp only [Act.put, List.setIfInBounds_toArray, List.set_cons_zero, List.set_cons_succ]
    have L7 := hid (l6.keep k7)
    clear l6 k6 k7
    go_wp2
    go_meet
    exact ⟨rfl, L7.out⟩
  case rest =>
  clear L0
  obtain ⟨rfl, l1⟩ := hcut
  have L1 := hid l1
  clear l1
  go_wp2
  go_loopw [8] (fun i wr => ∃ (k : Nat) (T : Tt), k ≤ N ∧ i = .int .i64 k ∧ Lw w wr F N va vc st1 ds pb (QA (.slice (some ⟨gc, 0, none⟩) cn cc) (.slice (some ⟨gp, 0, none⟩) n pc) h') b g cap T k B n h') (fun i _ => N - (intOf i).toNat)
  case atStart => exact ⟨0, T0, Nat.zero_le _, rfl, L1.out⟩
  case round =>
    clear L1
    obtain ⟨k, T, hk, rfl, l⟩ := hrel
    by_cases hlt : k < N
    · have hltz : (k : Int) < (N : Int) := by omega
      have hTn : T.n ≤ 16 := by rw [l.tn.1]; exact hn16
      have st0 := states_any wr l.tw (by omega) (fun i hi => by have := (l.sd.each i hi).ws; omega)
      have LL := hid l
      clear l
      go_upto_region 10 with (go_at_call 30; refine st0.mono ?_; rintro e w2 ⟨la, lc, lds, rfl, sl⟩; have SL := hid sl; clear sl st0)
      have l2 := LL.out.keep SL.out.2.1
      obtain ⟨gl, da, dn, dc, rfl, hdn, hz, hrg, hv1, hv2⟩ := l2.step hlt
      have LDs := hid (ldStep hrg)
      have pl := plays_any w2 l2.tw (by omega) ⟨by have := l2.sd.pl; omega, by have := l2.sd.pl; omega⟩ (fun i hi => by have := (l2.sd.each i hi).mis; exact ⟨by omega, by omega⟩) (fun i hi => by have := (l2.sd.each i hi).rel; have := (l2.sd.each i hi).per; unfold I64; omega) (st1 k) hz (by omega)
      have hws : (st1 k).ws.length ≤ 1000 := by have := hz.len; omega
      have L2 := hid l2
      clear l2 hz hrg
      have pl' : Calls Try.prog 29 #[.pointer (some ⟨b, 0, none⟩), .agg ((st1 k).row (.slice da dn dc))] w2 fun e w' => ∃ v, Does w2 b g cap T (T.plays (st1 k) v) e w' := pl
      clear pl
      refine wp_region_lit ?_
      refine l_take 47 rfl rfl (q_mvv _ rfl (.pointer (some ⟨b, 0, none⟩)) rfl) ?_
      simp only [Act.put, List.setIfInBounds_toArray, List.set_cons_zero, List.set_cons_succ]
      refine l_take 48 rfl rfl (q_mvv _ rfl (.slice (some ⟨gl, 0, none⟩) N vc) rfl) ?_
      simp only [Act.put, List.setIfInBounds_toArray, List.set_cons_zero, List.set_cons_succ]
      refine l_take 49 rfl rfl (q_mvv _ rfl (.int .i64 k) rfl) ?_
      simp only [Act.put, List.setIfInBounds_toArray, List.set_cons_zero, List.set_cons_succ]
      refine l_take 50 rfl rfl (q_ixS _ _ rfl gl N vc k hlt (by omega) rfl rfl) ?_
      simp only [Act.put, List.setIfInBounds_toArray, List.set_cons_zero, List.set_cons_succ]
      refine l_take 51 rfl rfl (er_ld 77 (.tmp 50) rfl (.pointer (some ⟨gl, k * 10, none⟩)) (.agg ((st1 k).row (.slice da dn dc))) rfl LDs.out) ?_
      simp only [Act.put, List.setIfInBounds_toArray, List.set_cons_zero, List.set_cons_succ]
      refine l_call 52 rfl rfl (er_cPl (.tmp 47) (.tmp 51) 22 77 rfl (.pointer (some ⟨b, 0, none⟩)) (.agg ((st1 k).row (.slice da dn dc))) rfl rfl) pl' ?_
      rintro e w3 ⟨v, he, tw3, k3⟩
      refine ⟨_, he, ?_⟩
      simp only [Act.put, List.setIfInBounds_toArray, List.set_cons_zero, List.set_cons_succ]
      generalize Value.agg ((st1 k).row (.slice da dn dc)) = vrow at *
      cases hR : T.plays (st1 k) v with
      | none =>
        rw [hR] at tw3
        have l3 : Lw w w3 F N (some ⟨gl, 0, none⟩) vc st1 ds pb (QA (.slice (some ⟨gc, 0, none⟩) cn cc) (.slice (some ⟨gp, 0, none⟩) n pc) h') b g cap T (k + 1) B n h' := L2.out.play k3 tw3 (L2.out.sd.up (Nat.le_succ k)) rfl rfl
        have st3 := states_any w3 l3.tw (by omega) (fun i hi => by have := (l3.sd.each i hi).ws; omega)
        have SK := hid (SL.out.k.keep k3 LL.out.low)
        have hs23 := hid k3.size
        have L3 := hid l3
        clear l3 tw3 k3 hR pl' he
        rw [show (none : Option Tt).isSome = false from rfl]
        go_upto_region 12 with (go_at_call 30; refine st3.mono ?_; rintro e w4 ⟨ma, mc, mds, rfl, sm⟩; have SM := hid sm; clear sm st3)
        have l4 := L3.out.keep SM.out.2.1
        refine wp_region_lit ?_
        refine l_take 59 rfl rfl (q_mvv _ rfl (.pointer (some ⟨b, 0, none⟩)) rfl) ?_
        simp only [Act.put, List.setIfInBounds_toArray, List.set_cons_zero, List.set_cons_succ]
        refine l_take 60 rfl rfl (er_ld 38 (.tmp 6) rfl (.pointer (some ⟨pb, 0, none⟩)) (.agg (QA (.slice (some ⟨gc, 0, none⟩) cn cc) (.slice (some ⟨gp, 0, none⟩) n pc) h')) rfl (ldP l4.pn rfl)) ?_
        simp only [Act.put, List.setIfInBounds_toArray, List.set_cons_zero, List.set_cons_succ]
        refine l_call 61 rfl rfl (er_cS (.tmp 59) (.tmp 60) 22 38 rfl (.pointer (some ⟨b, 0, none⟩)) (.agg (QA (.slice (some ⟨gc, 0, none⟩) cn cc) (.slice (some ⟨gp, 0, none⟩) n pc) h')) rfl rfl) (l4.sound hn16) ?_
        rintro e w5 ⟨rfl, k5⟩
        refine ⟨_, rfl, ?_⟩
        simp only [Act.put, List.setIfInBounds_toArray, List.set_cons_zero, List.set_cons_succ]
        have L5 := hid (l4.keep k5)
        have al := alike_k ((SK.out.keep SM.out.2.1 (fun _ e => e.elim)).keep k5 (fun _ e => e.elim)) (by have := SL.out.2.1.size; have := hs23.out; have := k5.size; have := SM.out.2.1.size; omega) (SM.out.keep k5) (by omega)
        have gp1 : ¬ T.pl < T.pl := by omega
        clear l4 k5 SK
        generalize Value.agg (QA (.slice (some ⟨gc, 0, none⟩) cn cc) (.slice (some ⟨gp, 0, none⟩) n pc) h') = vqa at *
        go_wp2_with (go_at_call 31; refine al.mono ?_; rintro e w6 ⟨rfl, k6⟩; have L6 := hid (L5.out.keep k6); clear k6 al)
        refine ⟨⟨k + 1, T, by omega, by go_num, L6.out⟩, ?_⟩
        simp [intOf]; omega
      | some U =>
        rw [hR] at tw3
        obtain ⟨sU, hpl, en, eh⟩ := sd_plays L2.out.sd (st1 k) v hws hR
        have l3 : Lw w w3 F N (some ⟨gl, 0, none⟩) vc st1 ds pb (QA (.slice (some ⟨gc, 0, none⟩) cn cc) (.slice (some ⟨gp, 0, none⟩) n pc) h') b g cap U (k + 1) B n h' := L2.out.play k3 tw3 sU en eh
        have st3 := states_any w3 l3.tw (by rw [l3.tn.1]; omega) (fun i hi => by have := (l3.sd.each i hi).ws; omega)
        have L3 := hid l3
        clear l3 tw3 k3 hR pl' he sU
        rw [show (some U : Option Tt).isSome = true from rfl]
        go_upto_region 12 with (go_at_call 30; refine st3.mono ?_; rintro e w4 ⟨ma, mc, mds, rfl, sm⟩; have SM := hid sm; clear sm st3)
        have l4 := L3.out.keep SM.out.2.1
        refine wp_region_lit ?_
        refine l_take 59 rfl rfl (q_mvv _ rfl (.pointer (some ⟨b, 0, none⟩)) rfl) ?_
        simp only [Act.put, List.setIfInBounds_toArray, List.set_cons_zero, List.set_cons_succ]
        refine l_take 60 rfl rfl (er_ld 38 (.tmp 6) rfl (.pointer (some ⟨pb, 0, none⟩)) (.agg (QA (.slice (some ⟨gc, 0, none⟩) cn cc) (.slice (some ⟨gp, 0, none⟩) n pc) h')) rfl (ldP l4.pn rfl)) ?_
        simp only [Act.put, List.setIfInBounds_toArray, List.set_cons_zero, List.set_cons_succ]
        refine l_call 61 rfl rfl (er_cS (.tmp 59) (.tmp 60) 22 38 rfl (.pointer (some ⟨b, 0, none⟩)) (.agg (QA (.slice (some ⟨gc, 0, none⟩) cn cc) (.slice (some ⟨gp, 0, none⟩) n pc) h')) rfl rfl) (l4.sound hn16) ?_
        rintro e w5 ⟨rfl, k5⟩
        refine ⟨_, rfl, ?_⟩
        simp only [Act.put, List.setIfInBounds_toArray, List.set_cons_zero, List.set_cons_succ]
        have L5 := hid (l4.keep k5)
        have gp1 : ¬ U.pl < T.pl := by omega
        clear l4 k5 hpl en eh
        generalize Value.agg (QA (.slice (some ⟨gc, 0, none⟩) cn cc) (.slice (some ⟨gp, 0, none⟩) n pc) h') = vqa at *
        go_wp2
        refine ⟨⟨k + 1, U, by omega, by go_num, L5.out⟩, ?_⟩
        simp [intOf]; omega
    · have hltz : ¬ (k : Int) < (N : Int) := by omega
      have LL := hid l
      clear l
      go_wp2
      go_ret
      exact ⟨rfl, LL.out.hk⟩
end Go.Proofs.Ytofkacfchkimiaa
