/-
  trace: number, kindOf, eventOf of six fields.
-/
import Derived.Test.YtjhhldgbllbbhaaGreatDoorVSw
import Derived.Lib.AtoiErrMem
namespace Go.Proofs.YtjhhldgbllbbhaaGreatDoor
open Go.RowKit
set_option linter.unusedVariables false
set_option linter.unusedSimpArgs false
set_option maxRecDepth 100000

theorem bytes_kept (w : World) (e : TypeId) (s : ByteArray) : Kept No w (Lib.bytesWorld w e s) := Kept.of_below (Lib.bytesWorld_below w e s)
theorem number_ok (s : ByteArray) (v : Int) (h : Lib.parseIntB 64 s.data.toList = .ok v) (hs : s.size ≤ 9223372036854775806) (w : World) : Calls Tryz.prog 36 #[.string s] w fun e w' => e = .returned (.int .i64 v) ∧ Kept No w w' := by
  have c : Calls Tryz.prog 56 #[.string s, .int .i64 10, .int .i64 64] w fun e w' => e = .returned (.tuple #[.int .i64 v, .nilIface]) ∧ Kept No w w' := (parse_ok s hs v h w).mono (by
    rintro e w' ⟨rfl, rfl | ⟨t, rfl⟩⟩
    · exact ⟨rfl, Kept.refl _ _⟩
    · exact ⟨rfl, bytes_kept _ _ _⟩)
  clear h
  go_enter Tryz.func36, Tryz.ntmps36
  go_wp2_with (go_at_call 56; refine c.mono ?_; rintro e w' ⟨rfl, k⟩; have H := hid k; clear k c)
  go_ret
  exact ⟨rfl, H.out⟩
def NmV : Array Value := (NMS.map Value.string).toArray
theorem nms_apart : ∀ i, i < 13 → ∀ j, j < 13 → i ≠ j → ((NMS.getD i ⟨#[]⟩).toList == (NMS.getD j ⟨#[]⟩).toList) = false := by
  have h : ∀ i, i < 13 → ∀ j, j < 13 → i ≠ j → NMS.getD i ⟨#[]⟩ ≠ NMS.getD j ⟨#[]⟩ := by decide
  intro i hi j hj hne
  rw [beq_eq_false_iff_ne]
  intro e
  rw [Lib.toList_data, Lib.toList_data] at e
  refine h i hi j hj hne ?_
  generalize NMS.getD i ⟨#[]⟩ = a at *
  generalize NMS.getD j ⟨#[]⟩ = b at *
  cases a; cases b
  simp at e
  rw [e]
theorem ldNm {w : World} (en : En w) : (Instr.loadAt 64 (.pointer (some ⟨0, 0, none⟩))).run Tryz.prog w = .ok (.agg NmV) w := ldSt (o := 0) 64 _ NmV (fun j v hv => by
  rw [Nat.zero_add]
  have hv2 : (NMS.map Value.string)[j]? = some v := hv
  rw [List.getElem?_map] at hv2
  cases hq : NMS[j]? with
  | none => rw [hq] at hv2; cases hv2
  | some s => rw [hq] at hv2; simp at hv2; subst hv2; exact en.kn j s hq) Tryz.underlying64 rfl (by kernel_rfl)
theorem ixNm {nv : Array Value} {j : Nat} {s : ByteArray} (hj : j < 13) (hx : nv[j]? = some (.string s)) (w : World) : (Instr.index 64 (.agg nv) (.int .i64 (j : Int))).run Tryz.prog w = .ok (.string s) w := by
  have h1 : (j : Int) < 13 := by omega
  have h2 : j < nv.size := (Array.getElem?_eq_some_iff.1 hx).1
  simp [Instr.index, go_sem, run_underlying Tryz.underlying64, h1, hx, part, Result.andThen]
  intro h
  omega
set_option maxHeartbeats 4000000 in
theorem kind_ok (k : Nat) (hk : k < 13) (w : World) (en : En w) : Calls Tryz.prog 37 #[.string (NMS.getD k ⟨#[]⟩)] w fun e w' => e = .returned (.int .i64 (k : Int)) ∧ Kept No w w' := by
  have LN := hid (ldNm en)
  have HA : Hid (∀ j : Nat, j < 13 → ∀ w, (Instr.index 64 (.agg NmV) (.int .i64 (j : Int))).run Tryz.prog w = .ok (.string (NMS.getD j ⟨#[]⟩)) w) := fun j hj w => ixNm hj (by
    unfold NmV
    rw [List.getElem?_toArray, List.getElem?_map, List.getD, List.getElem?_eq_getElem (show j < NMS.length from hj)]
    rfl) w
  obtain ⟨t, ht⟩ : ∃ t, t = NMS.getD k ⟨#[]⟩ := ⟨_, rfl⟩
  have HB : Hid (∀ j, j < k → ((NMS.getD j ⟨#[]⟩).toList == t.toList) = false) := fun j hj => by rw [ht]; exact nms_apart j (by omega) k hk (by omega)
  have HT := hid ht
  rw [← ht]
  clear en ht
  go_enter Tryz.func37, Tryz.ntmps37
  go_upto_region 2 with (refine l_take 5 rfl rfl (er_ldX 64 (.global 0) rfl (.pointer (some ⟨0, 0, none⟩)) (.agg NmV) rfl LN.out) ?_)
  clear LN
  generalize NmV = nv at *
  go_wp2
  go_loopw [3, 4, 6] (fun u3 u4 u6 wr => ∃ (j : Nat), j ≤ k ∧ u6 = .int .i64 j ∧ wr = w) (fun _ _ u6 _ => k - (intOf u6).toNat)
  case atStart => exact ⟨0, by omega, rfl, rfl⟩
  case round =>
    obtain ⟨j, hj, rfl, rfl⟩ := hrel
    have hjz : (j : Int) < 13 := by omega
    have hx := HA.out j (by omega)
    by_cases hlt : j < k
    · have hne := HB.out j hlt
      clear HA HB
      generalize NMS.getD j ⟨#[]⟩ = s at *
      go_wp2
      refine ⟨⟨j + 1, by omega, by go_num, trivial⟩, ?_⟩
      simp [intOf]; omega
    · obtain rfl : j = k := by omega
      rw [← HT.out] at hx
      have hne : (t.toList == t.toList) = true := by simp
      clear HA HB HT
      go_wp2
      go_ret
      exact ⟨rfl, Kept.refl _ _⟩

section
variable {w : World} {a : Act} {o : Oper}
theorem er_ixS (x y : Operand) (ho : o.op = .indexAddr 42 x y) (g q i n c : Nat) (hx : a.eval x = .slice (some ⟨g, q, none⟩) n c) (hy : a.eval y = .int .i64 (i : Int)) (hi : i < n) : (execOp a.eval o).run Tryz.prog w = .ok (.value (.pointer (some ⟨g, q + i, none⟩))) w := by
  simp only [execOp, ho, hx, hy]
  simp [go_sem, add_none, hi]
theorem er_ldS (x : Operand) (ho : o.op = .load 9 x) (g off : Nat) (v : Value) (hx : a.eval x = .pointer (some ⟨g, off, none⟩)) (hr : w.cell? ⟨g, off, none⟩ = some v) : (execOp a.eval o).run Tryz.prog w = .ok (.value v) w := by
  simp only [execOp, ho, hx]; simp [go_sem, hr]
theorem er_cNum (x : Operand) (t : TypeId) (ho : o.op = .call { callee := .value (.func 36), args := #[x], argTypes := #[t] }) (v : Value) (hx : a.eval x = v) : (execOp a.eval o).run Tryz.prog w = .ok (.enter 36 #[v]) w := by
  subst hx
  simp [execOp, ho, go_sem, Act.eval]
theorem er_cKin (x : Operand) (t : TypeId) (ho : o.op = .call { callee := .value (.func 37), args := #[x], argTypes := #[t] }) (v : Value) (hx : a.eval x = v) : (execOp a.eval o).run Tryz.prog w = .ok (.enter 37 #[v]) w := by
  subst hx
  simp [execOp, ho, go_sem, Act.eval]
end
def AtZ (lo pb : Nat) (W : World) : Prop := lo ≤ pb ∧ W.heap[pb]? = some (.cells Z7 25)
section
variable {md : Region.Mode} {ops : Array Oper} {Q : Exit → Act → World → Prop} {S : World → Prop} {fuel : Nat} {listed : Array Bool} {a : Act} {w : World}
/-- a call, or the cell's making -/
theorem d_twoA (i k j l : Nat) {oi oj : Oper} {f : FuncId} {args : Array Value} {v : Value} (hr : Region.ready md ops listed = [i, j]) (hi : ops[i]? = some oi) (hj : ops[j]? = some oj) (hd : oi.dst = some k) (hdj : oj.dst = some l) (hw : Region.wanted oi (yielded ops a.tmps) = true) (hwj : Region.wanted oj (yielded ops a.tmps) = true) (hrun : (execOp a.eval oi).run Tryz.prog w = .ok (.enter f args) w) (hal : oj.op = .alloc 25)
    (hc : Calls Tryz.prog f args w fun e w'' => e = .returned v ∧ S w'') (hS : S (w.alloc (.cells Z7 25))) (h : ∀ w'', S w'' → wpAnyH Tryz.prog md ops Q S fuel (listed.setIfInBounds i true) (a.put (some k) v) w'') (lo : Nat) (hlo : lo ≤ w.heap.size) (h' : ∀ pb W, S W → AtZ lo pb W → wpAnyH Tryz.prog md ops Q S fuel (listed.setIfInBounds j true) (a.put (some l) (.pointer (some ⟨pb, 0, none⟩))) W) : wpAnyH Tryz.prog md ops Q S (fuel + 1) listed a w :=
  d_two (fun _ => True) i k j l hr hi hj hd hdj hw hwj hrun (er_alI hal) (hc.mono (fun e w'' h => ⟨h.1, h.2, trivial⟩)) hS (fun w'' h1 _ => h w'' h1) (h' _ _ hS ⟨hlo, alloc_new w _⟩)
theorem d_makeA (j l : Nat) {oj : Oper} (hr : Region.ready md ops listed = [j]) (hj : ops[j]? = some oj) (hdj : oj.dst = some l) (hwj : Region.wanted oj (yielded ops a.tmps) = true) (hal : oj.op = .alloc 25)
    (hS : S (w.alloc (.cells Z7 25))) (lo : Nat) (hlo : lo ≤ w.heap.size) (h' : ∀ pb W, S W → AtZ lo pb W → wpAnyH Tryz.prog md ops Q S fuel (listed.setIfInBounds j true) (a.put (some l) (.pointer (some ⟨pb, 0, none⟩))) W) : wpAnyH Tryz.prog md ops Q S (fuel + 1) listed a w :=
  d_make j l hr hj hdj hwj (er_alI hal) hS (h' _ _ hS ⟨hlo, alloc_new w _⟩)
end
set_option maxHeartbeats 16000000 in
theorem event_six {g q : Nat} {t0 t1 t2 t3 t4 t5 : ByteArray} {n0 n1 n3 n4 n5 : Int} {kd : Nat} (w : World) (en : En w)
    (ht0 : w.cell? ⟨g, q + 0, none⟩ = some (.string t0))
    (ht1 : w.cell? ⟨g, q + 1, none⟩ = some (.string t1))
    (ht2 : w.cell? ⟨g, q + 2, none⟩ = some (.string t2))
    (ht3 : w.cell? ⟨g, q + 3, none⟩ = some (.string t3))
    (ht4 : w.cell? ⟨g, q + 4, none⟩ = some (.string t4))
    (ht5 : w.cell? ⟨g, q + 5, none⟩ = some (.string t5))
    (hp0 : Lib.parseIntB 64 t0.data.toList = .ok n0) (hp1 : Lib.parseIntB 64 t1.data.toList = .ok n1) (hp3 : Lib.parseIntB 64 t3.data.toList = .ok n3) (hp4 : Lib.parseIntB 64 t4.data.toList = .ok n4) (hp5 : Lib.parseIntB 64 t5.data.toList = .ok n5)
    (hs : t0.size ≤ 1000 ∧ t1.size ≤ 1000 ∧ t3.size ≤ 1000 ∧ t4.size ≤ 1000 ∧ t5.size ≤ 1000) (hk : kd < 13) (hkn : t2 = NMS.getD kd ⟨#[]⟩) :
    Calls Tryz.prog 17 #[.slice (some ⟨g, q, none⟩) 6 6] w fun r w' => r = .returned (.agg (R7 n0 n1 kd n3 n4 n5 (.slice none 0 0))) ∧ Kept No w w' := by
  subst hkn
  obtain ⟨w2, e2⟩ : ∃ w2, w2 = w.alloc (.cells #[.int .i64 0, .int .i64 0, .int .i64 0, .int .i64 0, .int .i64 0, .int .i64 0, .slice none 0 0] 25) := ⟨_, rfl⟩
  have K1 : Kept No w w2 := by rw [e2]; exact (Kept.refl No w).alloc _
  have BR : w2.heap[w.heap.size]? = some (.cells Z7 25) := by rw [e2]; exact alloc_new w _
  have U0 : Hid (∀ W, Kept No w2 W → W.cell? ⟨g, q + 0, none⟩ = some (.string t0)) := fun W z => z.cell (K1.cell ht0 (fun e => e)) (fun e => e)
  have U1 : Hid (∀ W, Kept No w2 W → W.cell? ⟨g, q + 1, none⟩ = some (.string t1)) := fun W z => z.cell (K1.cell ht1 (fun e => e)) (fun e => e)
  have U2 : Hid (∀ W, Kept No w2 W → W.cell? ⟨g, q + 2, none⟩ = some (.string (NMS.getD kd ⟨#[]⟩))) := fun W z => z.cell (K1.cell ht2 (fun e => e)) (fun e => e)
  have U3 : Hid (∀ W, Kept No w2 W → W.cell? ⟨g, q + 3, none⟩ = some (.string t3)) := fun W z => z.cell (K1.cell ht3 (fun e => e)) (fun e => e)
  have U4 : Hid (∀ W, Kept No w2 W → W.cell? ⟨g, q + 4, none⟩ = some (.string t4)) := fun W z => z.cell (K1.cell ht4 (fun e => e)) (fun e => e)
  have U5 : Hid (∀ W, Kept No w2 W → W.cell? ⟨g, q + 5, none⟩ = some (.string t5)) := fun W z => z.cell (K1.cell ht5 (fun e => e)) (fun e => e)
  have C0 : Hid (∀ W, Kept No w2 W → Calls Tryz.prog 36 #[.string t0] W fun e w' => e = .returned (.int .i64 n0) ∧ Kept No w2 w') := fun W z => (number_ok t0 n0 hp0 (by have := hs.1; omega) W).mono (fun e w' h => ⟨h.1, z.trans h.2 (fun _ e => e.elim)⟩)
  have D0 : Hid (∀ pb W, Kept No w2 W → AtZ w2.heap.size pb W → Calls Tryz.prog 36 #[.string t0] W fun e w' => e = .returned (.int .i64 n0) ∧ Kept No w2 w' ∧ AtZ w2.heap.size pb w') := fun pb W z hz => (number_ok t0 n0 hp0 (by have := hs.1; omega) W).mono (fun e w' h => ⟨h.1, z.trans h.2 (fun _ e => e.elim), ⟨hz.1, h.2.at' hz.2 (fun e => e)⟩⟩)
  have C1 : Hid (∀ W, Kept No w2 W → Calls Tryz.prog 36 #[.string t1] W fun e w' => e = .returned (.int .i64 n1) ∧ Kept No w2 w') := fun W z => (number_ok t1 n1 hp1 (by have := hs.2.1; omega) W).mono (fun e w' h => ⟨h.1, z.trans h.2 (fun _ e => e.elim)⟩)
  have D1 : Hid (∀ pb W, Kept No w2 W → AtZ w2.heap.size pb W → Calls Tryz.prog 36 #[.string t1] W fun e w' => e = .returned (.int .i64 n1) ∧ Kept No w2 w' ∧ AtZ w2.heap.size pb w') := fun pb W z hz => (number_ok t1 n1 hp1 (by have := hs.2.1; omega) W).mono (fun e w' h => ⟨h.1, z.trans h.2 (fun _ e => e.elim), ⟨hz.1, h.2.at' hz.2 (fun e => e)⟩⟩)
  have C2 : Hid (∀ W, Kept No w2 W → Calls Tryz.prog 37 #[.string (NMS.getD kd ⟨#[]⟩)] W fun e w' => e = .returned (.int .i64 (kd : Int)) ∧ Kept No w2 w') := fun W z => (kind_ok kd hk W (en.keep (K1.trans z (fun _ e => e.elim)))).mono (fun e w' h => ⟨h.1, z.trans h.2 (fun _ e => e.elim)⟩)
  have D2 : Hid (∀ pb W, Kept No w2 W → AtZ w2.heap.size pb W → Calls Tryz.prog 37 #[.string (NMS.getD kd ⟨#[]⟩)] W fun e w' => e = .returned (.int .i64 (kd : Int)) ∧ Kept No w2 w' ∧ AtZ w2.heap.size pb w') := fun pb W z hz => (kind_ok kd hk W (en.keep (K1.trans z (fun _ e => e.elim)))).mono (fun e w' h => ⟨h.1, z.trans h.2 (fun _ e => e.elim), ⟨hz.1, h.2.at' hz.2 (fun e => e)⟩⟩)
  have C3 : Hid (∀ W, Kept No w2 W → Calls Tryz.prog 36 #[.string t3] W fun e w' => e = .returned (.int .i64 n3) ∧ Kept No w2 w') := fun W z => (number_ok t3 n3 hp3 (by have := hs.2.2.1; omega) W).mono (fun e w' h => ⟨h.1, z.trans h.2 (fun _ e => e.elim)⟩)
  have D3 : Hid (∀ pb W, Kept No w2 W → AtZ w2.heap.size pb W → Calls Tryz.prog 36 #[.string t3] W fun e w' => e = .returned (.int .i64 n3) ∧ Kept No w2 w' ∧ AtZ w2.heap.size pb w') := fun pb W z hz => (number_ok t3 n3 hp3 (by have := hs.2.2.1; omega) W).mono (fun e w' h => ⟨h.1, z.trans h.2 (fun _ e => e.elim), ⟨hz.1, h.2.at' hz.2 (fun e => e)⟩⟩)
  have C4 : Hid (∀ W, Kept No w2 W → Calls Tryz.prog 36 #[.string t4] W fun e w' => e = .returned (.int .i64 n4) ∧ Kept No w2 w') := fun W z => (number_ok t4 n4 hp4 (by have := hs.2.2.2.1; omega) W).mono (fun e w' h => ⟨h.1, z.trans h.2 (fun _ e => e.elim)⟩)
  have D4 : Hid (∀ pb W, Kept No w2 W → AtZ w2.heap.size pb W → Calls Tryz.prog 36 #[.string t4] W fun e w' => e = .returned (.int .i64 n4) ∧ Kept No w2 w' ∧ AtZ w2.heap.size pb w') := fun pb W z hz => (number_ok t4 n4 hp4 (by have := hs.2.2.2.1; omega) W).mono (fun e w' h => ⟨h.1, z.trans h.2 (fun _ e => e.elim), ⟨hz.1, h.2.at' hz.2 (fun e => e)⟩⟩)
  have C5 : Hid (∀ W, Kept No w2 W → Calls Tryz.prog 36 #[.string t5] W fun e w' => e = .returned (.int .i64 n5) ∧ Kept No w2 w') := fun W z => (number_ok t5 n5 hp5 (by have := hs.2.2.2.2; omega) W).mono (fun e w' h => ⟨h.1, z.trans h.2 (fun _ e => e.elim)⟩)
  have D5 : Hid (∀ pb W, Kept No w2 W → AtZ w2.heap.size pb W → Calls Tryz.prog 36 #[.string t5] W fun e w' => e = .returned (.int .i64 n5) ∧ Kept No w2 w' ∧ AtZ w2.heap.size pb w') := fun pb W z hz => (number_ok t5 n5 hp5 (by have := hs.2.2.2.2; omega) W).mono (fun e w' h => ⟨h.1, z.trans h.2 (fun _ e => e.elim), ⟨hz.1, h.2.at' hz.2 (fun e => e)⟩⟩)
  have HH := hid (And.intro K1 BR)
  clear K1 BR en hp0 hp1 hp3 hp4 hp5 hs ht0 ht1 ht2 ht3 ht4 ht5
  generalize hk2 : NMS.getD kd ⟨#[]⟩ = t2 at *
  clear hk2
  go_enter Tryz.func17, Tryz.ntmps17
  go_upto_region 1 with fail
  rw [← e2]
  clear e2
  go_upto_region 3 with fail
  go_cut [3] (fun u wd => ∃ pb, u = .pointer (some ⟨pb, 0, none⟩) ∧ wd.heap[pb]? = some (.cells (R7 n0 n1 kd n3 n4 n5 (.slice none 0 0)) 25) ∧ Kept No w2 wd ∧ w2.heap.size ≤ pb)
  case first =>
    refine wp_region_held_drew (S := fun W => Kept No w2 W) (by kernel_rfl) ((Kept.refl No w2).drew) (fun hS => ?_)
    refine d_take 0 10 rfl rfl (by kernel_rfl) (by kernel_rfl) (by kernel_rfl) (fun _ _ _ h => h) rfl (fun w' hw' => er_mv _ rfl (.slice (some ⟨g, q, none⟩) 6 6) rfl) hS ?_
    simp only [Act.put, List.setIfInBounds_toArray, List.set_cons_zero, List.set_cons_succ]
    refine d_take 1 11 rfl rfl (by kernel_rfl) (by kernel_rfl) (by kernel_rfl) (fun _ _ _ h => h) rfl (fun w' hw' => er_ixS _ _ rfl g q 0 6 6 rfl rfl (by omega)) hS ?_
    simp only [Act.put, List.setIfInBounds_toArray, List.set_cons_zero, List.set_cons_succ]
    refine d_take 2 12 rfl rfl (by kernel_rfl) (by kernel_rfl) (by kernel_rfl) (fun _ _ _ h => h) rfl (fun w' hw' => er_ldS _ rfl g (q + 0) (.string t0) rfl (U0.out w' hw')) hS ?_
    simp only [Act.put, List.setIfInBounds_toArray, List.set_cons_zero, List.set_cons_succ]
    refine d_take 4 14 rfl rfl (by kernel_rfl) (by kernel_rfl) (by kernel_rfl) (fun _ _ _ h => h) rfl (fun w' hw' => er_mv _ rfl (.slice (some ⟨g, q, none⟩) 6 6) rfl) hS ?_
    simp only [Act.put, List.setIfInBounds_toArray, List.set_cons_zero, List.set_cons_succ]
    refine d_take 5 15 rfl rfl (by kernel_rfl) (by kernel_rfl) (by kernel_rfl) (fun _ _ _ h => h) rfl (fun w' hw' => er_ixS _ _ rfl g q 1 6 6 rfl rfl (by omega)) hS ?_
    simp only [Act.put, List.setIfInBounds_toArray, List.set_cons_zero, List.set_cons_succ]
    refine d_take 6 16 rfl rfl (by kernel_rfl) (by kernel_rfl) (by kernel_rfl) (fun _ _ _ h => h) rfl (fun w' hw' => er_ldS _ rfl g (q + 1) (.string t1) rfl (U1.out w' hw')) hS ?_
    simp only [Act.put, List.setIfInBounds_toArray, List.set_cons_zero, List.set_cons_succ]
    refine d_take 8 18 rfl rfl (by kernel_rfl) (by kernel_rfl) (by kernel_rfl) (fun _ _ _ h => h) rfl (fun w' hw' => er_mv _ rfl (.slice (some ⟨g, q, none⟩) 6 6) rfl) hS ?_
    simp only [Act.put, List.setIfInBounds_toArray, List.set_cons_zero, List.set_cons_succ]
    refine d_take 9 19 rfl rfl (by kernel_rfl) (by kernel_rfl) (by kernel_rfl) (fun _ _ _ h => h) rfl (fun w' hw' => er_ixS _ _ rfl g q 2 6 6 rfl rfl (by omega)) hS ?_
    simp only [Act.put, List.setIfInBounds_toArray, List.set_cons_zero, List.set_cons_succ]
    refine d_take 10 20 rfl rfl (by kernel_rfl) (by kernel_rfl) (by kernel_rfl) (fun _ _ _ h => h) rfl (fun w' hw' => er_ldS _ rfl g (q + 2) (.string t2) rfl (U2.out w' hw')) hS ?_
    simp only [Act.put, List.setIfInBounds_toArray, List.set_cons_zero, List.set_cons_succ]
    refine d_take 12 22 rfl rfl (by kernel_rfl) (by kernel_rfl) (by kernel_rfl) (fun _ _ _ h => h) rfl (fun w' hw' => er_mv _ rfl (.slice (some ⟨g, q, none⟩) 6 6) rfl) hS ?_
    simp only [Act.put, List.setIfInBounds_toArray, List.set_cons_zero, List.set_cons_succ]
    refine d_take 13 23 rfl rfl (by kernel_rfl) (by kernel_rfl) (by kernel_rfl) (fun _ _ _ h => h) rfl (fun w' hw' => er_ixS _ _ rfl g q 3 6 6 rfl rfl (by omega)) hS ?_
    simp only [Act.put, List.setIfInBounds_toArray, List.set_cons_zero, List.set_cons_succ]
    refine d_take 14 24 rfl rfl (by kernel_rfl) (by kernel_rfl) (by kernel_rfl) (fun _ _ _ h => h) rfl (fun w' hw' => er_ldS _ rfl g (q + 3) (.string t3) rfl (U3.out w' hw')) hS ?_
    simp only [Act.put, List.setIfInBounds_toArray, List.set_cons_zero, List.set_cons_succ]
    refine d_take 16 26 rfl rfl (by kernel_rfl) (by kernel_rfl) (by kernel_rfl) (fun _ _ _ h => h) rfl (fun w' hw' => er_mv _ rfl (.slice (some ⟨g, q, none⟩) 6 6) rfl) hS ?_
    simp only [Act.put, List.setIfInBounds_toArray, List.set_cons_zero, List.set_cons_succ]
    refine d_take 17 27 rfl rfl (by kernel_rfl) (by kernel_rfl) (by kernel_rfl) (fun _ _ _ h => h) rfl (fun w' hw' => er_ixS _ _ rfl g q 4 6 6 rfl rfl (by omega)) hS ?_
    simp only [Act.put, List.setIfInBounds_toArray, List.set_cons_zero, List.set_cons_succ]
    refine d_take 18 28 rfl rfl (by kernel_rfl) (by kernel_rfl) (by kernel_rfl) (fun _ _ _ h => h) rfl (fun w' hw' => er_ldS _ rfl g (q + 4) (.string t4) rfl (U4.out w' hw')) hS ?_
    simp only [Act.put, List.setIfInBounds_toArray, List.set_cons_zero, List.set_cons_succ]
    refine d_take 20 30 rfl rfl (by kernel_rfl) (by kernel_rfl) (by kernel_rfl) (fun _ _ _ h => h) rfl (fun w' hw' => er_mv _ rfl (.slice (some ⟨g, q, none⟩) 6 6) rfl) hS ?_
    simp only [Act.put, List.setIfInBounds_toArray, List.set_cons_zero, List.set_cons_succ]
    refine d_take 21 31 rfl rfl (by kernel_rfl) (by kernel_rfl) (by kernel_rfl) (fun _ _ _ h => h) rfl (fun w' hw' => er_ixS _ _ rfl g q 5 6 6 rfl rfl (by omega)) hS ?_
    simp only [Act.put, List.setIfInBounds_toArray, List.set_cons_zero, List.set_cons_succ]
    refine d_take 22 32 rfl rfl (by kernel_rfl) (by kernel_rfl) (by kernel_rfl) (fun _ _ _ h => h) rfl (fun w' hw' => er_ldS _ rfl g (q + 5) (.string t5) rfl (U5.out w' hw')) hS ?_
    simp only [Act.put, List.setIfInBounds_toArray, List.set_cons_zero, List.set_cons_succ]
    refine d_twoA 3 13 25 3 (by kernel_rfl) rfl rfl rfl rfl rfl rfl (er_cNum _ _ rfl (.string t0) rfl) rfl (C0.out _ hS) (hS.alloc _) (fun w' hS => ?_) w2.heap.size hS.size (fun pb W hS hT => ?_)
    rotate_left
    · simp only [Act.put, List.setIfInBounds_toArray, List.set_cons_zero, List.set_cons_succ]
      refine d_callT (AtZ w2.heap.size pb) 3 13 (by kernel_rfl) rfl rfl rfl (er_cNum _ _ rfl (.string t0) rfl) (D0.out pb _ hS hT) (fun w' hS hT => ?_)
      simp only [Act.put, List.setIfInBounds_toArray, List.set_cons_zero, List.set_cons_succ]
      refine d_callT (AtZ w2.heap.size pb) 7 17 (by kernel_rfl) rfl rfl rfl (er_cNum _ _ rfl (.string t1) rfl) (D1.out pb _ hS hT) (fun w' hS hT => ?_)
      simp only [Act.put, List.setIfInBounds_toArray, List.set_cons_zero, List.set_cons_succ]
      refine d_callT (AtZ w2.heap.size pb) 11 21 (by kernel_rfl) rfl rfl rfl (er_cKin _ _ rfl (.string t2) rfl) (D2.out pb _ hS hT) (fun w' hS hT => ?_)
      simp only [Act.put, List.setIfInBounds_toArray, List.set_cons_zero, List.set_cons_succ]
      refine d_callT (AtZ w2.heap.size pb) 15 25 (by kernel_rfl) rfl rfl rfl (er_cNum _ _ rfl (.string t3) rfl) (D3.out pb _ hS hT) (fun w' hS hT => ?_)
      simp only [Act.put, List.setIfInBounds_toArray, List.set_cons_zero, List.set_cons_succ]
      refine d_callT (AtZ w2.heap.size pb) 19 29 (by kernel_rfl) rfl rfl rfl (er_cNum _ _ rfl (.string t4) rfl) (D4.out pb _ hS hT) (fun w' hS hT => ?_)
      simp only [Act.put, List.setIfInBounds_toArray, List.set_cons_zero, List.set_cons_succ]
      refine d_callT (AtZ w2.heap.size pb) 23 33 (by kernel_rfl) rfl rfl rfl (er_cNum _ _ rfl (.string t5) rfl) (D5.out pb _ hS hT) (fun w' hS hT => ?_)
      simp only [Act.put, List.setIfInBounds_toArray, List.set_cons_zero, List.set_cons_succ]
      refine d_take 24 34 rfl rfl (by kernel_rfl) (by kernel_rfl) (by kernel_rfl) (fun _ _ _ h => h) rfl (fun w' hw' => er_build _ _ rfl [(0, .int .i64 n0), (1, .int .i64 n1), (2, .int .i64 (kd : Int)), (3, .int .i64 n3), (4, .int .i64 n4), (5, .int .i64 n5)] (by kernel_rfl) (R7 n0 n1 kd n3 n4 n5 (.slice none 0 0)) (by kernel_rfl)) hS ?_
      simp only [Act.put, List.setIfInBounds_toArray, List.set_cons_zero, List.set_cons_succ]
      refine d_turn 26 (by kernel_rfl) rfl rfl rfl (er_stI _ _ rfl pb (R7 n0 n1 kd n3 n4 n5 (.slice none 0 0)) _ rfl rfl hT.2 rfl rfl (by simp [R7, Value.oneCell'])) (hS.setRow (.inr hT.1) _) ?_
      refine wpAnyH_done (by kernel_rfl) ?_ _
      go_wp2
      go_meet
      exact ⟨pb, rfl, setRow_heap _ _ _ _ _ (0, 0) hT.2, hS.setRow (.inr hT.1) _, hT.1⟩
    simp only [Act.put, List.setIfInBounds_toArray, List.set_cons_zero, List.set_cons_succ]
    refine d_twoA 7 17 25 3 (by kernel_rfl) rfl rfl rfl rfl rfl rfl (er_cNum _ _ rfl (.string t1) rfl) rfl (C1.out _ hS) (hS.alloc _) (fun w' hS => ?_) w2.heap.size hS.size (fun pb W hS hT => ?_)
    rotate_left
    · simp only [Act.put, List.setIfInBounds_toArray, List.set_cons_zero, List.set_cons_succ]
      refine d_callT (AtZ w2.heap.size pb) 7 17 (by kernel_rfl) rfl rfl rfl (er_cNum _ _ rfl (.string t1) rfl) (D1.out pb _ hS hT) (fun w' hS hT => ?_)
      simp only [Act.put, List.setIfInBounds_toArray, List.set_cons_zero, List.set_cons_succ]
      refine d_callT (AtZ w2.heap.size pb) 11 21 (by kernel_rfl) rfl rfl rfl (er_cKin _ _ rfl (.string t2) rfl) (D2.out pb _ hS hT) (fun w' hS hT => ?_)
      simp only [Act.put, List.setIfInBounds_toArray, List.set_cons_zero, List.set_cons_succ]
      refine d_callT (AtZ w2.heap.size pb) 15 25 (by kernel_rfl) rfl rfl rfl (er_cNum _ _ rfl (.string t3) rfl) (D3.out pb _ hS hT) (fun w' hS hT => ?_)
      simp only [Act.put, List.setIfInBounds_toArray, List.set_cons_zero, List.set_cons_succ]
      refine d_callT (AtZ w2.heap.size pb) 19 29 (by kernel_rfl) rfl rfl rfl (er_cNum _ _ rfl (.string t4) rfl) (D4.out pb _ hS hT) (fun w' hS hT => ?_)
      simp only [Act.put, List.setIfInBounds_toArray, List.set_cons_zero, List.set_cons_succ]
      refine d_callT (AtZ w2.heap.size pb) 23 33 (by kernel_rfl) rfl rfl rfl (er_cNum _ _ rfl (.string t5) rfl) (D5.out pb _ hS hT) (fun w' hS hT => ?_)
      simp only [Act.put, List.setIfInBounds_toArray, List.set_cons_zero, List.set_cons_succ]
      refine d_take 24 34 rfl rfl (by kernel_rfl) (by kernel_rfl) (by kernel_rfl) (fun _ _ _ h => h) rfl (fun w' hw' => er_build _ _ rfl [(0, .int .i64 n0), (1, .int .i64 n1), (2, .int .i64 (kd : Int)), (3, .int .i64 n3), (4, .int .i64 n4), (5, .int .i64 n5)] (by kernel_rfl) (R7 n0 n1 kd n3 n4 n5 (.slice none 0 0)) (by kernel_rfl)) hS ?_
      simp only [Act.put, List.setIfInBounds_toArray, List.set_cons_zero, List.set_cons_succ]
      refine d_turn 26 (by kernel_rfl) rfl rfl rfl (er_stI _ _ rfl pb (R7 n0 n1 kd n3 n4 n5 (.slice none 0 0)) _ rfl rfl hT.2 rfl rfl (by simp [R7, Value.oneCell'])) (hS.setRow (.inr hT.1) _) ?_
      refine wpAnyH_done (by kernel_rfl) ?_ _
      go_wp2
      go_meet
      exact ⟨pb, rfl, setRow_heap _ _ _ _ _ (0, 0) hT.2, hS.setRow (.inr hT.1) _, hT.1⟩
    simp only [Act.put, List.setIfInBounds_toArray, List.set_cons_zero, List.set_cons_succ]
    refine d_twoA 11 21 25 3 (by kernel_rfl) rfl rfl rfl rfl rfl rfl (er_cKin _ _ rfl (.string t2) rfl) rfl (C2.out _ hS) (hS.alloc _) (fun w' hS => ?_) w2.heap.size hS.size (fun pb W hS hT => ?_)
    rotate_left
    · simp only [Act.put, List.setIfInBounds_toArray, List.set_cons_zero, List.set_cons_succ]
      refine d_callT (AtZ w2.heap.size pb) 11 21 (by kernel_rfl) rfl rfl rfl (er_cKin _ _ rfl (.string t2) rfl) (D2.out pb _ hS hT) (fun w' hS hT => ?_)
      simp only [Act.put, List.setIfInBounds_toArray, List.set_cons_zero, List.set_cons_succ]
      refine d_callT (AtZ w2.heap.size pb) 15 25 (by kernel_rfl) rfl rfl rfl (er_cNum _ _ rfl (.string t3) rfl) (D3.out pb _ hS hT) (fun w' hS hT => ?_)
      simp only [Act.put, List.setIfInBounds_toArray, List.set_cons_zero, List.set_cons_succ]
      refine d_callT (AtZ w2.heap.size pb) 19 29 (by kernel_rfl) rfl rfl rfl (er_cNum _ _ rfl (.string t4) rfl) (D4.out pb _ hS hT) (fun w' hS hT => ?_)
      simp only [Act.put, List.setIfInBounds_toArray, List.set_cons_zero, List.set_cons_succ]
      refine d_callT (AtZ w2.heap.size pb) 23 33 (by kernel_rfl) rfl rfl rfl (er_cNum _ _ rfl (.string t5) rfl) (D5.out pb _ hS hT) (fun w' hS hT => ?_)
      simp only [Act.put, List.setIfInBounds_toArray, List.set_cons_zero, List.set_cons_succ]
      refine d_take 24 34 rfl rfl (by kernel_rfl) (by kernel_rfl) (by kernel_rfl) (fun _ _ _ h => h) rfl (fun w' hw' => er_build _ _ rfl [(0, .int .i64 n0), (1, .int .i64 n1), (2, .int .i64 (kd : Int)), (3, .int .i64 n3), (4, .int .i64 n4), (5, .int .i64 n5)] (by kernel_rfl) (R7 n0 n1 kd n3 n4 n5 (.slice none 0 0)) (by kernel_rfl)) hS ?_
      simp only [Act.put, List.setIfInBounds_toArray, List.set_cons_zero, List.set_cons_succ]
      refine d_turn 26 (by kernel_rfl) rfl rfl rfl (er_stI _ _ rfl pb (R7 n0 n1 kd n3 n4 n5 (.slice none 0 0)) _ rfl rfl hT.2 rfl rfl (by simp [R7, Value.oneCell'])) (hS.setRow (.inr hT.1) _) ?_
      refine wpAnyH_done (by kernel_rfl) ?_ _
      go_wp2
      go_meet
      exact ⟨pb, rfl, setRow_heap _ _ _ _ _ (0, 0) hT.2, hS.setRow (.inr hT.1) _, hT.1⟩
    simp only [Act.put, List.setIfInBounds_toArray, List.set_cons_zero, List.set_cons_succ]
    refine d_twoA 15 25 25 3 (by kernel_rfl) rfl rfl rfl rfl rfl rfl (er_cNum _ _ rfl (.string t3) rfl) rfl (C3.out _ hS) (hS.alloc _) (fun w' hS => ?_) w2.heap.size hS.size (fun pb W hS hT => ?_)
    rotate_left
    · simp only [Act.put, List.setIfInBounds_toArray, List.set_cons_zero, List.set_cons_succ]
      refine d_callT (AtZ w2.heap.size pb) 15 25 (by kernel_rfl) rfl rfl rfl (er_cNum _ _ rfl (.string t3) rfl) (D3.out pb _ hS hT) (fun w' hS hT => ?_)
      simp only [Act.put, List.setIfInBounds_toArray, List.set_cons_zero, List.set_cons_succ]
      refine d_callT (AtZ w2.heap.size pb) 19 29 (by kernel_rfl) rfl rfl rfl (er_cNum _ _ rfl (.string t4) rfl) (D4.out pb _ hS hT) (fun w' hS hT => ?_)
      simp only [Act.put, List.setIfInBounds_toArray, List.set_cons_zero, List.set_cons_succ]
      refine d_callT (AtZ w2.heap.size pb) 23 33 (by kernel_rfl) rfl rfl rfl (er_cNum _ _ rfl (.string t5) rfl) (D5.out pb _ hS hT) (fun w' hS hT => ?_)
      simp only [Act.put, List.setIfInBounds_toArray, List.set_cons_zero, List.set_cons_succ]
      refine d_take 24 34 rfl rfl (by kernel_rfl) (by kernel_rfl) (by kernel_rfl) (fun _ _ _ h => h) rfl (fun w' hw' => er_build _ _ rfl [(0, .int .i64 n0), (1, .int .i64 n1), (2, .int .i64 (kd : Int)), (3, .int .i64 n3), (4, .int .i64 n4), (5, .int .i64 n5)] (by kernel_rfl) (R7 n0 n1 kd n3 n4 n5 (.slice none 0 0)) (by kernel_rfl)) hS ?_
      simp only [Act.put, List.setIfInBounds_toArray, List.set_cons_zero, List.set_cons_succ]
      refine d_turn 26 (by kernel_rfl) rfl rfl rfl (er_stI _ _ rfl pb (R7 n0 n1 kd n3 n4 n5 (.slice none 0 0)) _ rfl rfl hT.2 rfl rfl (by simp [R7, Value.oneCell'])) (hS.setRow (.inr hT.1) _) ?_
      refine wpAnyH_done (by kernel_rfl) ?_ _
      go_wp2
      go_meet
      exact ⟨pb, rfl, setRow_heap _ _ _ _ _ (0, 0) hT.2, hS.setRow (.inr hT.1) _, hT.1⟩
    simp only [Act.put, List.setIfInBounds_toArray, List.set_cons_zero, List.set_cons_succ]
    refine d_twoA 19 29 25 3 (by kernel_rfl) rfl rfl rfl rfl rfl rfl (er_cNum _ _ rfl (.string t4) rfl) rfl (C4.out _ hS) (hS.alloc _) (fun w' hS => ?_) w2.heap.size hS.size (fun pb W hS hT => ?_)
    rotate_left
    · simp only [Act.put, List.setIfInBounds_toArray, List.set_cons_zero, List.set_cons_succ]
      refine d_callT (AtZ w2.heap.size pb) 19 29 (by kernel_rfl) rfl rfl rfl (er_cNum _ _ rfl (.string t4) rfl) (D4.out pb _ hS hT) (fun w' hS hT => ?_)
      simp only [Act.put, List.setIfInBounds_toArray, List.set_cons_zero, List.set_cons_succ]
      refine d_callT (AtZ w2.heap.size pb) 23 33 (by kernel_rfl) rfl rfl rfl (er_cNum _ _ rfl (.string t5) rfl) (D5.out pb _ hS hT) (fun w' hS hT => ?_)
      simp only [Act.put, List.setIfInBounds_toArray, List.set_cons_zero, List.set_cons_succ]
      refine d_take 24 34 rfl rfl (by kernel_rfl) (by kernel_rfl) (by kernel_rfl) (fun _ _ _ h => h) rfl (fun w' hw' => er_build _ _ rfl [(0, .int .i64 n0), (1, .int .i64 n1), (2, .int .i64 (kd : Int)), (3, .int .i64 n3), (4, .int .i64 n4), (5, .int .i64 n5)] (by kernel_rfl) (R7 n0 n1 kd n3 n4 n5 (.slice none 0 0)) (by kernel_rfl)) hS ?_
      simp only [Act.put, List.setIfInBounds_toArray, List.set_cons_zero, List.set_cons_succ]
      refine d_turn 26 (by kernel_rfl) rfl rfl rfl (er_stI _ _ rfl pb (R7 n0 n1 kd n3 n4 n5 (.slice none 0 0)) _ rfl rfl hT.2 rfl rfl (by simp [R7, Value.oneCell'])) (hS.setRow (.inr hT.1) _) ?_
      refine wpAnyH_done (by kernel_rfl) ?_ _
      go_wp2
      go_meet
      exact ⟨pb, rfl, setRow_heap _ _ _ _ _ (0, 0) hT.2, hS.setRow (.inr hT.1) _, hT.1⟩
    simp only [Act.put, List.setIfInBounds_toArray, List.set_cons_zero, List.set_cons_succ]
    refine d_twoA 23 33 25 3 (by kernel_rfl) rfl rfl rfl rfl rfl rfl (er_cNum _ _ rfl (.string t5) rfl) rfl (C5.out _ hS) (hS.alloc _) (fun w' hS => ?_) w2.heap.size hS.size (fun pb W hS hT => ?_)
    rotate_left
    · simp only [Act.put, List.setIfInBounds_toArray, List.set_cons_zero, List.set_cons_succ]
      refine d_callT (AtZ w2.heap.size pb) 23 33 (by kernel_rfl) rfl rfl rfl (er_cNum _ _ rfl (.string t5) rfl) (D5.out pb _ hS hT) (fun w' hS hT => ?_)
      simp only [Act.put, List.setIfInBounds_toArray, List.set_cons_zero, List.set_cons_succ]
      refine d_take 24 34 rfl rfl (by kernel_rfl) (by kernel_rfl) (by kernel_rfl) (fun _ _ _ h => h) rfl (fun w' hw' => er_build _ _ rfl [(0, .int .i64 n0), (1, .int .i64 n1), (2, .int .i64 (kd : Int)), (3, .int .i64 n3), (4, .int .i64 n4), (5, .int .i64 n5)] (by kernel_rfl) (R7 n0 n1 kd n3 n4 n5 (.slice none 0 0)) (by kernel_rfl)) hS ?_
      simp only [Act.put, List.setIfInBounds_toArray, List.set_cons_zero, List.set_cons_succ]
      refine d_turn 26 (by kernel_rfl) rfl rfl rfl (er_stI _ _ rfl pb (R7 n0 n1 kd n3 n4 n5 (.slice none 0 0)) _ rfl rfl hT.2 rfl rfl (by simp [R7, Value.oneCell'])) (hS.setRow (.inr hT.1) _) ?_
      refine wpAnyH_done (by kernel_rfl) ?_ _
      go_wp2
      go_meet
      exact ⟨pb, rfl, setRow_heap _ _ _ _ _ (0, 0) hT.2, hS.setRow (.inr hT.1) _, hT.1⟩
    simp only [Act.put, List.setIfInBounds_toArray, List.set_cons_zero, List.set_cons_succ]
    refine d_take 24 34 rfl rfl (by kernel_rfl) (by kernel_rfl) (by kernel_rfl) (fun _ _ _ h => h) rfl (fun w' hw' => er_build _ _ rfl [(0, .int .i64 n0), (1, .int .i64 n1), (2, .int .i64 (kd : Int)), (3, .int .i64 n3), (4, .int .i64 n4), (5, .int .i64 n5)] (by kernel_rfl) (R7 n0 n1 kd n3 n4 n5 (.slice none 0 0)) (by kernel_rfl)) hS ?_
    simp only [Act.put, List.setIfInBounds_toArray, List.set_cons_zero, List.set_cons_succ]
    refine d_makeA 25 3 (by kernel_rfl) rfl rfl rfl rfl (hS.alloc _) w2.heap.size hS.size (fun pb W hS hT => ?_)
    simp only [Act.put, List.setIfInBounds_toArray, List.set_cons_zero, List.set_cons_succ]
    refine d_turn 26 (by kernel_rfl) rfl rfl rfl (er_stI _ _ rfl pb (R7 n0 n1 kd n3 n4 n5 (.slice none 0 0)) _ rfl rfl hT.2 rfl rfl (by simp [R7, Value.oneCell'])) (hS.setRow (.inr hT.1) _) ?_
    refine wpAnyH_done (by kernel_rfl) ?_ _
    go_wp2
    go_meet
    exact ⟨pb, rfl, setRow_heap _ _ _ _ _ (0, 0) hT.2, hS.setRow (.inr hT.1) _, hT.1⟩
  case rest =>
  rename World => w3
  obtain ⟨pb, rfl, hpb, k3, hpl⟩ := hcut
  have LP := hid (ldSt (w := w3) (b := pb) (o := 0) 25 _ (R7 n0 n1 kd n3 n4 n5 (.slice none 0 0)) (fun j v hv => by rw [Nat.zero_add, cell_blk hpb, ← Array.getElem?_toList]; exact hv) Tryz.underlying25 rfl Tryz.infoI4)
  have B3 := k3.at' HH.out.2 (fun e => e)
  have H3 := hid (And.intro (HH.out.1.trans k3 (fun _ e => e.elim)) B3)
  clear hpb k3 B3 hpl
  go_wp2
  go_loopw [5, 38] (fun u5 u38 wr => u38 = .int .i64 0 ∧ wr = w3) (fun _ _ _ => 0)
  case atStart => exact ⟨rfl, rfl⟩
  case round =>
    obtain ⟨rfl, rfl⟩ := hrel
    go_wp2_with (first
      | (refine l_take 50 rfl rfl (er_ldX 25 (.tmp 3) rfl (.pointer (some ⟨pb, 0, none⟩)) (.agg (R7 n0 n1 kd n3 n4 n5 (.slice none 0 0))) rfl LP.out) ?_)
      | (refine l_turn rfl rfl (er_stI _ _ rfl w.heap.size (R7 n0 n1 kd n3 n4 n5 (.slice none 0 0)) _ rfl rfl H3.out.2 rfl rfl (by simp [R7, Value.oneCell'])) ?_))
    have hfin := setRow_heap _ _ _ (R7 n0 n1 kd n3 n4 n5 (.slice none 0 0)) _ (0, 0) H3.out.2
    refine bodyPost_ret (results_cell_row rfl _ _ w.heap.size 25 (R7 n0 n1 kd n3 n4 n5 (.slice none 0 0)) (0, 0) _ rfl hfin Tryz.underlying25 rfl (by kernel_rfl)) rfl ?_
    exact ⟨rfl, H3.out.1.setRow (.inr (Nat.le_refl _)) _⟩
end Go.Proofs.YtjhhldgbllbbhaaGreatDoor
