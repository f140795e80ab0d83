/-
  trace: eventOf of any fields that tell an event.
-/
import Derived.Test.YtjhhldgbllbbhaaGreatDoorVTk
namespace Go.Proofs.YtjhhldgbllbbhaaGreatDoor
open Go.RowKit
set_option linter.unusedVariables false
set_option linter.unusedSimpArgs false
set_option maxRecDepth 100000

section
variable {w : World} {a : Act} {o : Oper}
theorem er_fD (x : Operand) (ho : o.op = .fieldAddr 25 x 6) (g off : Nat) (hx : a.eval x = .pointer (some ⟨g, off, none⟩)) : (execOp a.eval o).run Tryz.prog w = .ok (.value (.pointer (some ⟨g, off + 6, none⟩))) w := by simp only [execOp, ho, hx]; simp [go_sem, add_none]
theorem er_sl6 (x : Operand) (ho : o.op = .slice 42 x (some (.const (.int .i64 6))) none none) (g q dn q' : Nat) (hx : a.eval x = .slice (some ⟨g, q, none⟩) (6 + dn) (6 + dn)) (hq : q' = if dn = 0 then q else q + 6) : (execOp a.eval o).run Tryz.prog w = .ok (.value (.slice (some ⟨g, q', none⟩) dn dn)) w := by
  subst hq
  have h1 : (6 : Int) ≤ 6 + (dn : Int) := by omega
  simp only [execOp, ho, hx, Option.map_some, Option.map_none]
  by_cases e : dn = 0
  · subst e
    simp [go_sem, add_none]
  · simp [go_sem, add_none, h1, e]
theorem er_appW (s x : Operand) (ho : o.op = .call { callee := .builtin .append, args := #[s, x], argTypes := #[23, 23] }) (v u : Value) (hs : a.eval s = v) (hx : a.eval x = u) (v' : Value) (w' : World) (hty : o.type = 23) (hr : (Builtin.append_ #[23, 23] 23 #[v, u]).run Tryz.prog w = .ok v' w') : (execOp a.eval o).run Tryz.prog w = .ok (.value v') w' := by
  unfold execOp
  simp only [ho, hty, resolve, invoke, builtin, Sem.run_bind, Sem.run_pure, Result.andThen_ok, List.map_toArray, List.map_cons, List.map_nil, hs, hx, hr]
theorem er_stW (x y : Operand) (ho : o.op = .store 23 x y) (g off : Nat) (u : Option Addr) (n c : Nat) (old : Value) (hx : a.eval x = .pointer (some ⟨g, off, none⟩)) (hy : a.eval y = .slice u n c) (hc : w.cell? ⟨g, off, none⟩ = some old) (hf : w.frozen? ⟨g, off, none⟩ = false) : (execOp a.eval o).run Tryz.prog w = .ok .skip (w.setCell ⟨g, off, none⟩ (.slice u n c)) := by
  simp only [execOp, ho, hx, hy]
  simp [go_sem, hc, hf]
theorem er_bs1 (x : Operand) (ho : o.op = .buildSlice 23 1 #[(0, x)]) (z : Int) (hx : a.eval x = .int .i64 z) : (execOp a.eval o).run Tryz.prog w = .ok (.value (.slice (some ⟨w.heap.size, 0, none⟩) 1 1)) (w.alloc (.cells #[.int .i64 z] 2)) := by
  simp only [execOp, ho, List.map_toArray, List.map_cons, List.map_nil, hx]
  generalize a.eval = ev
  simp [go_sem]
  try rfl
end
def TkN (z : Int) (wr : World) (u : Value) (W : World) : Prop := u = .int .i64 z ∧ Kept No wr W

theorem ev_pb {wr W w5 : World} {B pb k gg cc yc : Nat} {ya : Option Addr} {z : Int} {A : Array Value} {us vs : List Value} (hpb : wr.heap[pb]? = some (.cells A 25)) (own : wr.ownsRow B 2 1 (.slice ya k yc) k us) (kW : Kept No wr W) (kk : Kept (fun j => (Value.slice ya k yc).ownBlock = some j) (W.alloc (.cells #[.int .i64 z] 2)) w5) (own5 : w5.ownsRow B 2 1 (.slice (some ⟨gg, 0, none⟩) (k + 1) cc) (k + 1) vs) : w5.heap[pb]? = some (.cells A 25) ∧ gg ≠ pb := by
  have b5 : w5.heap[pb]? = some (.cells A 25) := kk.at' ((kW.alloc _).at' hpb (fun e => e)) (fun e => by
    obtain ⟨_, cs, q2⟩ := owns_blk own e
    exact absurd (two_tags q2 hpb) (by decide))
  refine ⟨b5, fun e => ?_⟩
  obtain ⟨_, cs, q2⟩ := owns_blk own5 (g := gg) rfl
  rw [e] at q2
  exact absurd (two_tags q2 b5) (by decide)
theorem ev_next {wr W w5 w2 : World} {pb k gg cc yc : Nat} {ya : Option Addr} {n0 n1 n2 n3 n4 n5 z : Int} {zs : List Int} (kr : Kept No w2 wr) (kW : Kept No wr W) (kk : Kept (fun j => (Value.slice ya k yc).ownBlock = some j) (W.alloc (.cells #[.int .i64 z] 2)) w5) (own5 : w5.ownsRow w2.heap.size 2 1 (.slice (some ⟨gg, 0, none⟩) (k + 1) cc) (k + 1) ((zs.take k).map iv ++ [.int .i64 z])) (b5 : w5.heap[pb]? = some (.cells (R7 n0 n1 n2 n3 n4 n5 (.slice ya k yc)) 25)) (hne : gg ≠ pb) (hpl : w2.heap.size ≤ pb) (own : wr.ownsRow w2.heap.size 2 1 (.slice ya k yc) k ((zs.take k).map iv)) (hzt : (zs.take (k + 1)).map iv = (zs.take k).map iv ++ [.int .i64 z]) :
    (w5.setCell ⟨pb, 0 + 6, none⟩ (.slice (some ⟨gg, 0, none⟩) (k + 1) cc)).heap[pb]? = some (.cells (R7 n0 n1 n2 n3 n4 n5 (.slice (some ⟨gg, 0, none⟩) (k + 1) cc)) 25) ∧ (w5.setCell ⟨pb, 0 + 6, none⟩ (.slice (some ⟨gg, 0, none⟩) (k + 1) cc)).ownsRow w2.heap.size 2 1 (.slice (some ⟨gg, 0, none⟩) (k + 1) cc) (k + 1) ((zs.take (k + 1)).map iv) ∧ Kept No w2 (w5.setCell ⟨pb, 0 + 6, none⟩ (.slice (some ⟨gg, 0, none⟩) (k + 1) cc)) := by
  have ks : Kept (fun j => j = pb) w5 (w5.setCell ⟨pb, 0 + 6, none⟩ (.slice (some ⟨gg, 0, none⟩) (k + 1) cc)) := (Kept.refl (fun j => j = pb) w5).setCell (p := ⟨pb, 0 + 6, none⟩) (.inl rfl) _
  refine ⟨set_blk b5 6 _, ?_, ?_⟩
  · rw [hzt]
    exact ks.owns own5 (fun j e1 e2 => hne (by injection e1 with e1; exact e1.trans e2))
  · exact (((kr.trans kW (fun _ e => e.elim)).alloc _).trans kk (fun j e => .inr (owns_blk own e).1)).trans ks (fun j e => .inr (by rw [e]; exact hpl))
set_option maxHeartbeats 32000000 in
theorem ev_gen {g dn : Nat} {t0 t1 t2 t3 t4 t5 : ByteArray} {n0 n1 n2 n3 n4 n5 : Int} {zs : List Int} {tz : Nat → ByteArray} (w : World) (hz : zs.length = dn) (hdn : dn ≤ 16)
    (ht0 : w.cell? ⟨g, 0 + 0, none⟩ = some (.string t0))
    (ht1 : w.cell? ⟨g, 0 + 1, none⟩ = some (.string t1))
    (ht2 : w.cell? ⟨g, 0 + 2, none⟩ = some (.string t2))
    (ht3 : w.cell? ⟨g, 0 + 3, none⟩ = some (.string t3))
    (ht4 : w.cell? ⟨g, 0 + 4, none⟩ = some (.string t4))
    (ht5 : w.cell? ⟨g, 0 + 5, none⟩ = some (.string t5))
    (htz : ∀ j, j < dn → w.cell? ⟨g, 6 + j, none⟩ = some (.string (tz j)))
    (hc0 : ∀ W, Kept No w W → Calls Tryz.prog 36 #[.string t0] W fun e w' => e = .returned (.int .i64 n0) ∧ Kept No W w')
    (hc1 : ∀ W, Kept No w W → Calls Tryz.prog 36 #[.string t1] W fun e w' => e = .returned (.int .i64 n1) ∧ Kept No W w')
    (hc2 : ∀ W, Kept No w W → Calls Tryz.prog 37 #[.string t2] W fun e w' => e = .returned (.int .i64 n2) ∧ Kept No W w')
    (hc3 : ∀ W, Kept No w W → Calls Tryz.prog 36 #[.string t3] W fun e w' => e = .returned (.int .i64 n3) ∧ Kept No W w')
    (hc4 : ∀ W, Kept No w W → Calls Tryz.prog 36 #[.string t4] W fun e w' => e = .returned (.int .i64 n4) ∧ Kept No W w')
    (hc5 : ∀ W, Kept No w W → Calls Tryz.prog 36 #[.string t5] W fun e w' => e = .returned (.int .i64 n5) ∧ Kept No W w')
    (hz2 : ∀ j, j < dn → ∀ W, Kept No w W → Calls Tryz.prog 36 #[.string (tz j)] W fun e w' => e = .returned (.int .i64 (zs.getD j 0)) ∧ Kept No W w') :
    Calls Tryz.prog 17 #[.slice (some ⟨g, 0, none⟩) (6 + dn) (6 + dn)] w fun r w' => ∃ ya yc, r = .returned (.agg (R7 n0 n1 n2 n3 n4 n5 (.slice ya dn yc))) ∧ w'.ownsRow w.heap.size 2 1 (.slice ya dn yc) dn (zs.map iv) ∧ Kept No w w' := by
  obtain ⟨w2, e2⟩ : ∃ w2, w2 = w.alloc (.cells #[.int .i64 0, .int .i64 0, .int .i64 0, .int .i64 0, .int .i64 0, .int .i64 0, .slice none 0 0] 25) := ⟨_, rfl⟩
  have K1 : Kept No w w2 := by rw [e2]; exact (Kept.refl No w).alloc _
  have BR : w2.heap[w.heap.size]? = some (.cells Z7 25) := by rw [e2]; exact alloc_new w _
  have hs2 : Hid (w2.heap.size = w.heap.size + 1) := by rw [e2, World.size_alloc]; exact rfl
  have U0 : Hid (∀ W, Kept No w2 W → W.cell? ⟨g, 0 + 0, none⟩ = some (.string t0)) := fun W z => z.cell (K1.cell ht0 (fun e => e)) (fun e => e)
  have U1 : Hid (∀ W, Kept No w2 W → W.cell? ⟨g, 0 + 1, none⟩ = some (.string t1)) := fun W z => z.cell (K1.cell ht1 (fun e => e)) (fun e => e)
  have U2 : Hid (∀ W, Kept No w2 W → W.cell? ⟨g, 0 + 2, none⟩ = some (.string t2)) := fun W z => z.cell (K1.cell ht2 (fun e => e)) (fun e => e)
  have U3 : Hid (∀ W, Kept No w2 W → W.cell? ⟨g, 0 + 3, none⟩ = some (.string t3)) := fun W z => z.cell (K1.cell ht3 (fun e => e)) (fun e => e)
  have U4 : Hid (∀ W, Kept No w2 W → W.cell? ⟨g, 0 + 4, none⟩ = some (.string t4)) := fun W z => z.cell (K1.cell ht4 (fun e => e)) (fun e => e)
  have U5 : Hid (∀ W, Kept No w2 W → W.cell? ⟨g, 0 + 5, none⟩ = some (.string t5)) := fun W z => z.cell (K1.cell ht5 (fun e => e)) (fun e => e)
  have C0 : Hid (∀ W, Kept No w2 W → Calls Tryz.prog 36 #[.string t0] W fun e w' => e = .returned (.int .i64 n0) ∧ Kept No w2 w') := fun W z => (hc0 W (K1.trans z (fun _ e => e.elim))).mono (fun e w' h => ⟨h.1, z.trans h.2 (fun _ e => e.elim)⟩)
  have D0 : Hid (∀ pb W, Kept No w2 W → AtZ w2.heap.size pb W → Calls Tryz.prog 36 #[.string t0] W fun e w' => e = .returned (.int .i64 n0) ∧ Kept No w2 w' ∧ AtZ w2.heap.size pb w') := fun pb W z hz => (hc0 W (K1.trans z (fun _ e => e.elim))).mono (fun e w' h => ⟨h.1, z.trans h.2 (fun _ e => e.elim), ⟨hz.1, h.2.at' hz.2 (fun e => e)⟩⟩)
  have C1 : Hid (∀ W, Kept No w2 W → Calls Tryz.prog 36 #[.string t1] W fun e w' => e = .returned (.int .i64 n1) ∧ Kept No w2 w') := fun W z => (hc1 W (K1.trans z (fun _ e => e.elim))).mono (fun e w' h => ⟨h.1, z.trans h.2 (fun _ e => e.elim)⟩)
  have D1 : Hid (∀ pb W, Kept No w2 W → AtZ w2.heap.size pb W → Calls Tryz.prog 36 #[.string t1] W fun e w' => e = .returned (.int .i64 n1) ∧ Kept No w2 w' ∧ AtZ w2.heap.size pb w') := fun pb W z hz => (hc1 W (K1.trans z (fun _ e => e.elim))).mono (fun e w' h => ⟨h.1, z.trans h.2 (fun _ e => e.elim), ⟨hz.1, h.2.at' hz.2 (fun e => e)⟩⟩)
  have C2 : Hid (∀ W, Kept No w2 W → Calls Tryz.prog 37 #[.string t2] W fun e w' => e = .returned (.int .i64 n2) ∧ Kept No w2 w') := fun W z => (hc2 W (K1.trans z (fun _ e => e.elim))).mono (fun e w' h => ⟨h.1, z.trans h.2 (fun _ e => e.elim)⟩)
  have D2 : Hid (∀ pb W, Kept No w2 W → AtZ w2.heap.size pb W → Calls Tryz.prog 37 #[.string t2] W fun e w' => e = .returned (.int .i64 n2) ∧ Kept No w2 w' ∧ AtZ w2.heap.size pb w') := fun pb W z hz => (hc2 W (K1.trans z (fun _ e => e.elim))).mono (fun e w' h => ⟨h.1, z.trans h.2 (fun _ e => e.elim), ⟨hz.1, h.2.at' hz.2 (fun e => e)⟩⟩)
  have C3 : Hid (∀ W, Kept No w2 W → Calls Tryz.prog 36 #[.string t3] W fun e w' => e = .returned (.int .i64 n3) ∧ Kept No w2 w') := fun W z => (hc3 W (K1.trans z (fun _ e => e.elim))).mono (fun e w' h => ⟨h.1, z.trans h.2 (fun _ e => e.elim)⟩)
  have D3 : Hid (∀ pb W, Kept No w2 W → AtZ w2.heap.size pb W → Calls Tryz.prog 36 #[.string t3] W fun e w' => e = .returned (.int .i64 n3) ∧ Kept No w2 w' ∧ AtZ w2.heap.size pb w') := fun pb W z hz => (hc3 W (K1.trans z (fun _ e => e.elim))).mono (fun e w' h => ⟨h.1, z.trans h.2 (fun _ e => e.elim), ⟨hz.1, h.2.at' hz.2 (fun e => e)⟩⟩)
  have C4 : Hid (∀ W, Kept No w2 W → Calls Tryz.prog 36 #[.string t4] W fun e w' => e = .returned (.int .i64 n4) ∧ Kept No w2 w') := fun W z => (hc4 W (K1.trans z (fun _ e => e.elim))).mono (fun e w' h => ⟨h.1, z.trans h.2 (fun _ e => e.elim)⟩)
  have D4 : Hid (∀ pb W, Kept No w2 W → AtZ w2.heap.size pb W → Calls Tryz.prog 36 #[.string t4] W fun e w' => e = .returned (.int .i64 n4) ∧ Kept No w2 w' ∧ AtZ w2.heap.size pb w') := fun pb W z hz => (hc4 W (K1.trans z (fun _ e => e.elim))).mono (fun e w' h => ⟨h.1, z.trans h.2 (fun _ e => e.elim), ⟨hz.1, h.2.at' hz.2 (fun e => e)⟩⟩)
  have C5 : Hid (∀ W, Kept No w2 W → Calls Tryz.prog 36 #[.string t5] W fun e w' => e = .returned (.int .i64 n5) ∧ Kept No w2 w') := fun W z => (hc5 W (K1.trans z (fun _ e => e.elim))).mono (fun e w' h => ⟨h.1, z.trans h.2 (fun _ e => e.elim)⟩)
  have D5 : Hid (∀ pb W, Kept No w2 W → AtZ w2.heap.size pb W → Calls Tryz.prog 36 #[.string t5] W fun e w' => e = .returned (.int .i64 n5) ∧ Kept No w2 w' ∧ AtZ w2.heap.size pb w') := fun pb W z hz => (hc5 W (K1.trans z (fun _ e => e.elim))).mono (fun e w' h => ⟨h.1, z.trans h.2 (fun _ e => e.elim), ⟨hz.1, h.2.at' hz.2 (fun e => e)⟩⟩)
  have HZ2 : Hid (∀ j, j < dn → ∀ W, Kept No w2 W → (W.cell? ⟨g, 6 + j, none⟩ = some (.string (tz j))) ∧ Calls Tryz.prog 36 #[.string (tz j)] W fun e w' => e = .returned (.int .i64 (zs.getD j 0)) ∧ Kept No W w') := fun j hj W z => ⟨z.cell (K1.cell (htz j hj) (fun e => e)) (fun e => e), hz2 j hj W (K1.trans z (fun _ e => e.elim))⟩
  have HH := hid (And.intro K1 BR)
  have HZL := hid hz
  clear K1 BR hz2 htz hz ht0 hc0 ht1 hc1 ht2 hc2 ht3 hc3 ht4 hc4 ht5 hc5
  have hlt6 : ¬ (6 + (dn : Int)) < 6 := by omega
  go_enter Tryz.func17, Tryz.ntmps17
  go_upto_region 1 with fail
  rw [← e2]
  clear e2
  go_upto_region 3 with fail
  go_cut [3] (fun u wd => ∃ pb, u = .pointer (some ⟨pb, 0, none⟩) ∧ wd.heap[pb]? = some (.cells (R7 n0 n1 n2 n3 n4 n5 (.slice none 0 0)) 25) ∧ Kept No w2 wd ∧ w2.heap.size ≤ pb)
  case first =>
    refine wp_region_held_drew (S := fun W => Kept No w2 W) (by kernel_rfl) ((Kept.refl No w2).drew) (fun hS => ?_)
    refine d_take 0 10 rfl rfl (by kernel_rfl) (by kernel_rfl) (by kernel_rfl) (fun _ _ _ h => h) rfl (fun w' hw' => er_mv _ rfl (.slice (some ⟨g, 0, none⟩) (6 + dn) (6 + dn)) rfl) hS ?_
    simp only [Act.put, List.setIfInBounds_toArray, List.set_cons_zero, List.set_cons_succ]
    refine d_take 1 11 rfl rfl (by kernel_rfl) (by kernel_rfl) (by kernel_rfl) (fun _ _ _ h => h) rfl (fun w' hw' => er_ixS _ _ rfl g 0 0 (6 + dn) (6 + dn) rfl rfl (by omega)) hS ?_
    simp only [Act.put, List.setIfInBounds_toArray, List.set_cons_zero, List.set_cons_succ]
    refine d_take 2 12 rfl rfl (by kernel_rfl) (by kernel_rfl) (by kernel_rfl) (fun _ _ _ h => h) rfl (fun w' hw' => er_ldS _ rfl g (0 + 0) (.string t0) rfl (U0.out w' hw')) hS ?_
    simp only [Act.put, List.setIfInBounds_toArray, List.set_cons_zero, List.set_cons_succ]
    refine d_take 4 14 rfl rfl (by kernel_rfl) (by kernel_rfl) (by kernel_rfl) (fun _ _ _ h => h) rfl (fun w' hw' => er_mv _ rfl (.slice (some ⟨g, 0, none⟩) (6 + dn) (6 + dn)) rfl) hS ?_
    simp only [Act.put, List.setIfInBounds_toArray, List.set_cons_zero, List.set_cons_succ]
    refine d_take 5 15 rfl rfl (by kernel_rfl) (by kernel_rfl) (by kernel_rfl) (fun _ _ _ h => h) rfl (fun w' hw' => er_ixS _ _ rfl g 0 1 (6 + dn) (6 + dn) rfl rfl (by omega)) hS ?_
    simp only [Act.put, List.setIfInBounds_toArray, List.set_cons_zero, List.set_cons_succ]
    refine d_take 6 16 rfl rfl (by kernel_rfl) (by kernel_rfl) (by kernel_rfl) (fun _ _ _ h => h) rfl (fun w' hw' => er_ldS _ rfl g (0 + 1) (.string t1) rfl (U1.out w' hw')) hS ?_
    simp only [Act.put, List.setIfInBounds_toArray, List.set_cons_zero, List.set_cons_succ]
    refine d_take 8 18 rfl rfl (by kernel_rfl) (by kernel_rfl) (by kernel_rfl) (fun _ _ _ h => h) rfl (fun w' hw' => er_mv _ rfl (.slice (some ⟨g, 0, none⟩) (6 + dn) (6 + dn)) rfl) hS ?_
    simp only [Act.put, List.setIfInBounds_toArray, List.set_cons_zero, List.set_cons_succ]
    refine d_take 9 19 rfl rfl (by kernel_rfl) (by kernel_rfl) (by kernel_rfl) (fun _ _ _ h => h) rfl (fun w' hw' => er_ixS _ _ rfl g 0 2 (6 + dn) (6 + dn) rfl rfl (by omega)) hS ?_
    simp only [Act.put, List.setIfInBounds_toArray, List.set_cons_zero, List.set_cons_succ]
    refine d_take 10 20 rfl rfl (by kernel_rfl) (by kernel_rfl) (by kernel_rfl) (fun _ _ _ h => h) rfl (fun w' hw' => er_ldS _ rfl g (0 + 2) (.string t2) rfl (U2.out w' hw')) hS ?_
    simp only [Act.put, List.setIfInBounds_toArray, List.set_cons_zero, List.set_cons_succ]
    refine d_take 12 22 rfl rfl (by kernel_rfl) (by kernel_rfl) (by kernel_rfl) (fun _ _ _ h => h) rfl (fun w' hw' => er_mv _ rfl (.slice (some ⟨g, 0, none⟩) (6 + dn) (6 + dn)) rfl) hS ?_
    simp only [Act.put, List.setIfInBounds_toArray, List.set_cons_zero, List.set_cons_succ]
    refine d_take 13 23 rfl rfl (by kernel_rfl) (by kernel_rfl) (by kernel_rfl) (fun _ _ _ h => h) rfl (fun w' hw' => er_ixS _ _ rfl g 0 3 (6 + dn) (6 + dn) rfl rfl (by omega)) hS ?_
    simp only [Act.put, List.setIfInBounds_toArray, List.set_cons_zero, List.set_cons_succ]
    refine d_take 14 24 rfl rfl (by kernel_rfl) (by kernel_rfl) (by kernel_rfl) (fun _ _ _ h => h) rfl (fun w' hw' => er_ldS _ rfl g (0 + 3) (.string t3) rfl (U3.out w' hw')) hS ?_
    simp only [Act.put, List.setIfInBounds_toArray, List.set_cons_zero, List.set_cons_succ]
    refine d_take 16 26 rfl rfl (by kernel_rfl) (by kernel_rfl) (by kernel_rfl) (fun _ _ _ h => h) rfl (fun w' hw' => er_mv _ rfl (.slice (some ⟨g, 0, none⟩) (6 + dn) (6 + dn)) rfl) hS ?_
    simp only [Act.put, List.setIfInBounds_toArray, List.set_cons_zero, List.set_cons_succ]
    refine d_take 17 27 rfl rfl (by kernel_rfl) (by kernel_rfl) (by kernel_rfl) (fun _ _ _ h => h) rfl (fun w' hw' => er_ixS _ _ rfl g 0 4 (6 + dn) (6 + dn) rfl rfl (by omega)) hS ?_
    simp only [Act.put, List.setIfInBounds_toArray, List.set_cons_zero, List.set_cons_succ]
    refine d_take 18 28 rfl rfl (by kernel_rfl) (by kernel_rfl) (by kernel_rfl) (fun _ _ _ h => h) rfl (fun w' hw' => er_ldS _ rfl g (0 + 4) (.string t4) rfl (U4.out w' hw')) hS ?_
    simp only [Act.put, List.setIfInBounds_toArray, List.set_cons_zero, List.set_cons_succ]
    refine d_take 20 30 rfl rfl (by kernel_rfl) (by kernel_rfl) (by kernel_rfl) (fun _ _ _ h => h) rfl (fun w' hw' => er_mv _ rfl (.slice (some ⟨g, 0, none⟩) (6 + dn) (6 + dn)) rfl) hS ?_
    simp only [Act.put, List.setIfInBounds_toArray, List.set_cons_zero, List.set_cons_succ]
    refine d_take 21 31 rfl rfl (by kernel_rfl) (by kernel_rfl) (by kernel_rfl) (fun _ _ _ h => h) rfl (fun w' hw' => er_ixS _ _ rfl g 0 5 (6 + dn) (6 + dn) rfl rfl (by omega)) hS ?_
    simp only [Act.put, List.setIfInBounds_toArray, List.set_cons_zero, List.set_cons_succ]
    refine d_take 22 32 rfl rfl (by kernel_rfl) (by kernel_rfl) (by kernel_rfl) (fun _ _ _ h => h) rfl (fun w' hw' => er_ldS _ rfl g (0 + 5) (.string t5) rfl (U5.out w' hw')) hS ?_
    simp only [Act.put, List.setIfInBounds_toArray, List.set_cons_zero, List.set_cons_succ]
    refine d_twoA 3 13 25 3 (by kernel_rfl) rfl rfl rfl rfl rfl rfl (er_cNum _ _ rfl (.string t0) rfl) rfl (C0.out _ hS) (hS.alloc _) (fun w' hS => ?_) w2.heap.size hS.size (fun pb W hS hT => ?_)
    rotate_left
    · simp only [Act.put, List.setIfInBounds_toArray, List.set_cons_zero, List.set_cons_succ]
      refine d_callT (AtZ w2.heap.size pb) 3 13 (by kernel_rfl) rfl rfl rfl (er_cNum _ _ rfl (.string t0) rfl) (D0.out pb _ hS hT) (fun w' hS hT => ?_)
      simp only [Act.put, List.setIfInBounds_toArray, List.set_cons_zero, List.set_cons_succ]
      refine d_callT (AtZ w2.heap.size pb) 7 17 (by kernel_rfl) rfl rfl rfl (er_cNum _ _ rfl (.string t1) rfl) (D1.out pb _ hS hT) (fun w' hS hT => ?_)
      simp only [Act.put, List.setIfInBounds_toArray, List.set_cons_zero, List.set_cons_succ]
      refine d_callT (AtZ w2.heap.size pb) 11 21 (by kernel_rfl) rfl rfl rfl (er_cKin _ _ rfl (.string t2) rfl) (D2.out pb _ hS hT) (fun w' hS hT => ?_)
      simp only [Act.put, List.setIfInBounds_toArray, List.set_cons_zero, List.set_cons_succ]
      refine d_callT (AtZ w2.heap.size pb) 15 25 (by kernel_rfl) rfl rfl rfl (er_cNum _ _ rfl (.string t3) rfl) (D3.out pb _ hS hT) (fun w' hS hT => ?_)
      simp only [Act.put, List.setIfInBounds_toArray, List.set_cons_zero, List.set_cons_succ]
      refine d_callT (AtZ w2.heap.size pb) 19 29 (by kernel_rfl) rfl rfl rfl (er_cNum _ _ rfl (.string t4) rfl) (D4.out pb _ hS hT) (fun w' hS hT => ?_)
      simp only [Act.put, List.setIfInBounds_toArray, List.set_cons_zero, List.set_cons_succ]
      refine d_callT (AtZ w2.heap.size pb) 23 33 (by kernel_rfl) rfl rfl rfl (er_cNum _ _ rfl (.string t5) rfl) (D5.out pb _ hS hT) (fun w' hS hT => ?_)
      simp only [Act.put, List.setIfInBounds_toArray, List.set_cons_zero, List.set_cons_succ]
      refine d_take 24 34 rfl rfl (by kernel_rfl) (by kernel_rfl) (by kernel_rfl) (fun _ _ _ h => h) rfl (fun w' hw' => er_build _ _ rfl [(0, .int .i64 n0), (1, .int .i64 n1), (2, .int .i64 n2), (3, .int .i64 n3), (4, .int .i64 n4), (5, .int .i64 n5)] (by kernel_rfl) (R7 n0 n1 n2 n3 n4 n5 (.slice none 0 0)) (by kernel_rfl)) hS ?_
      simp only [Act.put, List.setIfInBounds_toArray, List.set_cons_zero, List.set_cons_succ]
      refine d_turn 26 (by kernel_rfl) rfl rfl rfl (er_stI _ _ rfl pb (R7 n0 n1 n2 n3 n4 n5 (.slice none 0 0)) _ rfl rfl hT.2 rfl rfl (by simp [R7, Value.oneCell'])) (hS.setRow (.inr hT.1) _) ?_
      refine wpAnyH_done (by kernel_rfl) ?_ _
      go_wp2
      go_meet
      exact ⟨pb, rfl, setRow_heap _ _ _ _ _ (0, 0) hT.2, hS.setRow (.inr hT.1) _, hT.1⟩
    simp only [Act.put, List.setIfInBounds_toArray, List.set_cons_zero, List.set_cons_succ]
    refine d_twoA 7 17 25 3 (by kernel_rfl) rfl rfl rfl rfl rfl rfl (er_cNum _ _ rfl (.string t1) rfl) rfl (C1.out _ hS) (hS.alloc _) (fun w' hS => ?_) w2.heap.size hS.size (fun pb W hS hT => ?_)
    rotate_left
    · simp only [Act.put, List.setIfInBounds_toArray, List.set_cons_zero, List.set_cons_succ]
      refine d_callT (AtZ w2.heap.size pb) 7 17 (by kernel_rfl) rfl rfl rfl (er_cNum _ _ rfl (.string t1) rfl) (D1.out pb _ hS hT) (fun w' hS hT => ?_)
      simp only [Act.put, List.setIfInBounds_toArray, List.set_cons_zero, List.set_cons_succ]
      refine d_callT (AtZ w2.heap.size pb) 11 21 (by kernel_rfl) rfl rfl rfl (er_cKin _ _ rfl (.string t2) rfl) (D2.out pb _ hS hT) (fun w' hS hT => ?_)
      simp only [Act.put, List.setIfInBounds_toArray, List.set_cons_zero, List.set_cons_succ]
      refine d_callT (AtZ w2.heap.size pb) 15 25 (by kernel_rfl) rfl rfl rfl (er_cNum _ _ rfl (.string t3) rfl) (D3.out pb _ hS hT) (fun w' hS hT => ?_)
      simp only [Act.put, List.setIfInBounds_toArray, List.set_cons_zero, List.set_cons_succ]
      refine d_callT (AtZ w2.heap.size pb) 19 29 (by kernel_rfl) rfl rfl rfl (er_cNum _ _ rfl (.string t4) rfl) (D4.out pb _ hS hT) (fun w' hS hT => ?_)
      simp only [Act.put, List.setIfInBounds_toArray, List.set_cons_zero, List.set_cons_succ]
      refine d_callT (AtZ w2.heap.size pb) 23 33 (by kernel_rfl) rfl rfl rfl (er_cNum _ _ rfl (.string t5) rfl) (D5.out pb _ hS hT) (fun w' hS hT => ?_)
      simp only [Act.put, List.setIfInBounds_toArray, List.set_cons_zero, List.set_cons_succ]
      refine d_take 24 34 rfl rfl (by kernel_rfl) (by kernel_rfl) (by kernel_rfl) (fun _ _ _ h => h) rfl (fun w' hw' => er_build _ _ rfl [(0, .int .i64 n0), (1, .int .i64 n1), (2, .int .i64 n2), (3, .int .i64 n3), (4, .int .i64 n4), (5, .int .i64 n5)] (by kernel_rfl) (R7 n0 n1 n2 n3 n4 n5 (.slice none 0 0)) (by kernel_rfl)) hS ?_
      simp only [Act.put, List.setIfInBounds_toArray, List.set_cons_zero, List.set_cons_succ]
      refine d_turn 26 (by kernel_rfl) rfl rfl rfl (er_stI _ _ rfl pb (R7 n0 n1 n2 n3 n4 n5 (.slice none 0 0)) _ rfl rfl hT.2 rfl rfl (by simp [R7, Value.oneCell'])) (hS.setRow (.inr hT.1) _) ?_
      refine wpAnyH_done (by kernel_rfl) ?_ _
      go_wp2
      go_meet
      exact ⟨pb, rfl, setRow_heap _ _ _ _ _ (0, 0) hT.2, hS.setRow (.inr hT.1) _, hT.1⟩
    simp only [Act.put, List.setIfInBounds_toArray, List.set_cons_zero, List.set_cons_succ]
    refine d_twoA 11 21 25 3 (by kernel_rfl) rfl rfl rfl rfl rfl rfl (er_cKin _ _ rfl (.string t2) rfl) rfl (C2.out _ hS) (hS.alloc _) (fun w' hS => ?_) w2.heap.size hS.size (fun pb W hS hT => ?_)
    rotate_left
    · simp only [Act.put, List.setIfInBounds_toArray, List.set_cons_zero, List.set_cons_succ]
      refine d_callT (AtZ w2.heap.size pb) 11 21 (by kernel_rfl) rfl rfl rfl (er_cKin _ _ rfl (.string t2) rfl) (D2.out pb _ hS hT) (fun w' hS hT => ?_)
      simp only [Act.put, List.setIfInBounds_toArray, List.set_cons_zero, List.set_cons_succ]
      refine d_callT (AtZ w2.heap.size pb) 15 25 (by kernel_rfl) rfl rfl rfl (er_cNum _ _ rfl (.string t3) rfl) (D3.out pb _ hS hT) (fun w' hS hT => ?_)
      simp only [Act.put, List.setIfInBounds_toArray, List.set_cons_zero, List.set_cons_succ]
      refine d_callT (AtZ w2.heap.size pb) 19 29 (by kernel_rfl) rfl rfl rfl (er_cNum _ _ rfl (.string t4) rfl) (D4.out pb _ hS hT) (fun w' hS hT => ?_)
      simp only [Act.put, List.setIfInBounds_toArray, List.set_cons_zero, List.set_cons_succ]
      refine d_callT (AtZ w2.heap.size pb) 23 33 (by kernel_rfl) rfl rfl rfl (er_cNum _ _ rfl (.string t5) rfl) (D5.out pb _ hS hT) (fun w' hS hT => ?_)
      simp only [Act.put, List.setIfInBounds_toArray, List.set_cons_zero, List.set_cons_succ]
      refine d_take 24 34 rfl rfl (by kernel_rfl) (by kernel_rfl) (by kernel_rfl) (fun _ _ _ h => h) rfl (fun w' hw' => er_build _ _ rfl [(0, .int .i64 n0), (1, .int .i64 n1), (2, .int .i64 n2), (3, .int .i64 n3), (4, .int .i64 n4), (5, .int .i64 n5)] (by kernel_rfl) (R7 n0 n1 n2 n3 n4 n5 (.slice none 0 0)) (by kernel_rfl)) hS ?_
      simp only [Act.put, List.setIfInBounds_toArray, List.set_cons_zero, List.set_cons_succ]
      refine d_turn 26 (by kernel_rfl) rfl rfl rfl (er_stI _ _ rfl pb (R7 n0 n1 n2 n3 n4 n5 (.slice none 0 0)) _ rfl rfl hT.2 rfl rfl (by simp [R7, Value.oneCell'])) (hS.setRow (.inr hT.1) _) ?_
      refine wpAnyH_done (by kernel_rfl) ?_ _
      go_wp2
      go_meet
      exact ⟨pb, rfl, setRow_heap _ _ _ _ _ (0, 0) hT.2, hS.setRow (.inr hT.1) _, hT.1⟩
    simp only [Act.put, List.setIfInBounds_toArray, List.set_cons_zero, List.set_cons_succ]
    refine d_twoA 15 25 25 3 (by kernel_rfl) rfl rfl rfl rfl rfl rfl (er_cNum _ _ rfl (.string t3) rfl) rfl (C3.out _ hS) (hS.alloc _) (fun w' hS => ?_) w2.heap.size hS.size (fun pb W hS hT => ?_)
    rotate_left
    · simp only [Act.put, List.setIfInBounds_toArray, List.set_cons_zero, List.set_cons_succ]
      refine d_callT (AtZ w2.heap.size pb) 15 25 (by kernel_rfl) rfl rfl rfl (er_cNum _ _ rfl (.string t3) rfl) (D3.out pb _ hS hT) (fun w' hS hT => ?_)
      simp only [Act.put, List.setIfInBounds_toArray, List.set_cons_zero, List.set_cons_succ]
      refine d_callT (AtZ w2.heap.size pb) 19 29 (by kernel_rfl) rfl rfl rfl (er_cNum _ _ rfl (.string t4) rfl) (D4.out pb _ hS hT) (fun w' hS hT => ?_)
      simp only [Act.put, List.setIfInBounds_toArray, List.set_cons_zero, List.set_cons_succ]
      refine d_callT (AtZ w2.heap.size pb) 23 33 (by kernel_rfl) rfl rfl rfl (er_cNum _ _ rfl (.string t5) rfl) (D5.out pb _ hS hT) (fun w' hS hT => ?_)
      simp only [Act.put, List.setIfInBounds_toArray, List.set_cons_zero, List.set_cons_succ]
      refine d_take 24 34 rfl rfl (by kernel_rfl) (by kernel_rfl) (by kernel_rfl) (fun _ _ _ h => h) rfl (fun w' hw' => er_build _ _ rfl [(0, .int .i64 n0), (1, .int .i64 n1), (2, .int .i64 n2), (3, .int .i64 n3), (4, .int .i64 n4), (5, .int .i64 n5)] (by kernel_rfl) (R7 n0 n1 n2 n3 n4 n5 (.slice none 0 0)) (by kernel_rfl)) hS ?_
      simp only [Act.put, List.setIfInBounds_toArray, List.set_cons_zero, List.set_cons_succ]
      refine d_turn 26 (by kernel_rfl) rfl rfl rfl (er_stI _ _ rfl pb (R7 n0 n1 n2 n3 n4 n5 (.slice none 0 0)) _ rfl rfl hT.2 rfl rfl (by simp [R7, Value.oneCell'])) (hS.setRow (.inr hT.1) _) ?_
      refine wpAnyH_done (by kernel_rfl) ?_ _
      go_wp2
      go_meet
      exact ⟨pb, rfl, setRow_heap _ _ _ _ _ (0, 0) hT.2, hS.setRow (.inr hT.1) _, hT.1⟩
    simp only [Act.put, List.setIfInBounds_toArray, List.set_cons_zero, List.set_cons_succ]
    refine d_twoA 19 29 25 3 (by kernel_rfl) rfl rfl rfl rfl rfl rfl (er_cNum _ _ rfl (.string t4) rfl) rfl (C4.out _ hS) (hS.alloc _) (fun w' hS => ?_) w2.heap.size hS.size (fun pb W hS hT => ?_)
    rotate_left
    · simp only [Act.put, List.setIfInBounds_toArray, List.set_cons_zero, List.set_cons_succ]
      refine d_callT (AtZ w2.heap.size pb) 19 29 (by kernel_rfl) rfl rfl rfl (er_cNum _ _ rfl (.string t4) rfl) (D4.out pb _ hS hT) (fun w' hS hT => ?_)
      simp only [Act.put, List.setIfInBounds_toArray, List.set_cons_zero, List.set_cons_succ]
      refine d_callT (AtZ w2.heap.size pb) 23 33 (by kernel_rfl) rfl rfl rfl (er_cNum _ _ rfl (.string t5) rfl) (D5.out pb _ hS hT) (fun w' hS hT => ?_)
      simp only [Act.put, List.setIfInBounds_toArray, List.set_cons_zero, List.set_cons_succ]
      refine d_take 24 34 rfl rfl (by kernel_rfl) (by kernel_rfl) (by kernel_rfl) (fun _ _ _ h => h) rfl (fun w' hw' => er_build _ _ rfl [(0, .int .i64 n0), (1, .int .i64 n1), (2, .int .i64 n2), (3, .int .i64 n3), (4, .int .i64 n4), (5, .int .i64 n5)] (by kernel_rfl) (R7 n0 n1 n2 n3 n4 n5 (.slice none 0 0)) (by kernel_rfl)) hS ?_
      simp only [Act.put, List.setIfInBounds_toArray, List.set_cons_zero, List.set_cons_succ]
      refine d_turn 26 (by kernel_rfl) rfl rfl rfl (er_stI _ _ rfl pb (R7 n0 n1 n2 n3 n4 n5 (.slice none 0 0)) _ rfl rfl hT.2 rfl rfl (by simp [R7, Value.oneCell'])) (hS.setRow (.inr hT.1) _) ?_
      refine wpAnyH_done (by kernel_rfl) ?_ _
      go_wp2
      go_meet
      exact ⟨pb, rfl, setRow_heap _ _ _ _ _ (0, 0) hT.2, hS.setRow (.inr hT.1) _, hT.1⟩
    simp only [Act.put, List.setIfInBounds_toArray, List.set_cons_zero, List.set_cons_succ]
    refine d_twoA 23 33 25 3 (by kernel_rfl) rfl rfl rfl rfl rfl rfl (er_cNum _ _ rfl (.string t5) rfl) rfl (C5.out _ hS) (hS.alloc _) (fun w' hS => ?_) w2.heap.size hS.size (fun pb W hS hT => ?_)
    rotate_left
    · simp only [Act.put, List.setIfInBounds_toArray, List.set_cons_zero, List.set_cons_succ]
      refine d_callT (AtZ w2.heap.size pb) 23 33 (by kernel_rfl) rfl rfl rfl (er_cNum _ _ rfl (.string t5) rfl) (D5.out pb _ hS hT) (fun w' hS hT => ?_)
      simp only [Act.put, List.setIfInBounds_toArray, List.set_cons_zero, List.set_cons_succ]
      refine d_take 24 34 rfl rfl (by kernel_rfl) (by kernel_rfl) (by kernel_rfl) (fun _ _ _ h => h) rfl (fun w' hw' => er_build _ _ rfl [(0, .int .i64 n0), (1, .int .i64 n1), (2, .int .i64 n2), (3, .int .i64 n3), (4, .int .i64 n4), (5, .int .i64 n5)] (by kernel_rfl) (R7 n0 n1 n2 n3 n4 n5 (.slice none 0 0)) (by kernel_rfl)) hS ?_
      simp only [Act.put, List.setIfInBounds_toArray, List.set_cons_zero, List.set_cons_succ]
      refine d_turn 26 (by kernel_rfl) rfl rfl rfl (er_stI _ _ rfl pb (R7 n0 n1 n2 n3 n4 n5 (.slice none 0 0)) _ rfl rfl hT.2 rfl rfl (by simp [R7, Value.oneCell'])) (hS.setRow (.inr hT.1) _) ?_
      refine wpAnyH_done (by kernel_rfl) ?_ _
      go_wp2
      go_meet
      exact ⟨pb, rfl, setRow_heap _ _ _ _ _ (0, 0) hT.2, hS.setRow (.inr hT.1) _, hT.1⟩
    simp only [Act.put, List.setIfInBounds_toArray, List.set_cons_zero, List.set_cons_succ]
    refine d_take 24 34 rfl rfl (by kernel_rfl) (by kernel_rfl) (by kernel_rfl) (fun _ _ _ h => h) rfl (fun w' hw' => er_build _ _ rfl [(0, .int .i64 n0), (1, .int .i64 n1), (2, .int .i64 n2), (3, .int .i64 n3), (4, .int .i64 n4), (5, .int .i64 n5)] (by kernel_rfl) (R7 n0 n1 n2 n3 n4 n5 (.slice none 0 0)) (by kernel_rfl)) hS ?_
    simp only [Act.put, List.setIfInBounds_toArray, List.set_cons_zero, List.set_cons_succ]
    refine d_makeA 25 3 (by kernel_rfl) rfl rfl rfl rfl (hS.alloc _) w2.heap.size hS.size (fun pb W hS hT => ?_)
    simp only [Act.put, List.setIfInBounds_toArray, List.set_cons_zero, List.set_cons_succ]
    refine d_turn 26 (by kernel_rfl) rfl rfl rfl (er_stI _ _ rfl pb (R7 n0 n1 n2 n3 n4 n5 (.slice none 0 0)) _ rfl rfl hT.2 rfl rfl (by simp [R7, Value.oneCell'])) (hS.setRow (.inr hT.1) _) ?_
    refine wpAnyH_done (by kernel_rfl) ?_ _
    go_wp2
    go_meet
    exact ⟨pb, rfl, setRow_heap _ _ _ _ _ (0, 0) hT.2, hS.setRow (.inr hT.1) _, hT.1⟩
  case rest =>
  rename World => w3
  obtain ⟨pb, rfl, hpb, k3, hpl⟩ := hcut
  have H3 := hid (And.intro hpb (And.intro k3 hpl))
  clear hpb k3 hpl C0 C1 C2 C3 C4 C5 D0 D1 D2 D3 D4 D5 U0 U1 U2 U3 U4 U5
  obtain ⟨q, hq⟩ : ∃ q, q = (if dn = 0 then 0 else 0 + 6) := ⟨_, rfl⟩
  have HQ := hid hq
  clear hq
  go_wp2_with (refine l_take 36 rfl rfl (er_sl6 _ rfl g 0 dn q rfl HQ.out) ?_)
  go_loopw [5, 38] (fun u5 u38 wr => ∃ (k : Nat) (ya : Option Addr) (yc : Nat), k ≤ dn ∧ u38 = .int .i64 (k : Int) ∧ wr.heap[pb]? = some (.cells (R7 n0 n1 n2 n3 n4 n5 (.slice ya k yc)) 25) ∧ wr.ownsRow w2.heap.size 2 1 (.slice ya k yc) k ((zs.take k).map iv) ∧ Kept No w2 wr) (fun _ u38 _ => dn - (intOf u38).toNat)
  case atStart => exact ⟨0, none, 0, by omega, rfl, H3.out.1, World.ownsRow_nil _ _ _ _, H3.out.2.1⟩
  case round =>
    obtain ⟨k, ya, yc, hk, rfl, hpb, own, kr⟩ := hrel
    by_cases hlt : k < dn
    · have hltz : (k : Int) < (dn : Int) := by omega
      obtain ⟨hcz, _⟩ := HZ2.out k hlt wr kr
      obtain ⟨_, hcall⟩ := HZ2.out k hlt wr.drew kr.drew
      have hq6 : q = 6 := by rw [HQ.out, if_neg (by omega)]
      clear HQ
      subst hq6
      have hzt : Hid ((zs.take (k + 1)).map iv = (zs.take k).map iv ++ [.int .i64 (zs.getD k 0)]) := by
        rw [take_snoc (x := zs.getD k 0) (by rw [List.getD, List.getElem?_eq_getElem (by rw [HZL.out]; exact hlt)]; rfl), List.map_append]
        rfl
      have HR := hid (And.intro hpb (And.intro own kr))
      have c6 : wr.cell? ⟨pb, 0 + 6, none⟩ = some (.slice ya k yc) := (cell_blk hpb 6).trans rfl
      clear hpb own kr
      generalize tz k = tk at *
      generalize zs.getD k 0 = z at *
      go_upto_region 7 with fail
      have HC6 := hid c6
      have HCL : Hid (Calls Tryz.prog 36 #[.string tk] wr.drew fun e w'' => ∃ u, e = .returned u ∧ True ∧ TkN z wr u w'') := hcall.mono (fun e w'' h => ⟨_, h.1, trivial, rfl, (Kept.refl No wr).drew.trans h.2 (fun _ e => e.elim)⟩)
      clear c6 hcall hcz
      refine wp_region_held_drew (S := fun _ => True) (by kernel_rfl) trivial (fun hS => ?_)
      refine d_take 0 42 rfl rfl (by kernel_rfl) (by kernel_rfl) (by kernel_rfl) (fun _ _ _ h => h) rfl (fun w' hw' => er_fD _ rfl pb 0 rfl) trivial ?_
      simp only [Act.put, List.setIfInBounds_toArray, List.set_cons_zero, List.set_cons_succ]
      refine d_take 2 44 rfl rfl (by kernel_rfl) (by kernel_rfl) (by kernel_rfl) (fun _ _ _ h => h) rfl (fun w' hw' => er_mv _ rfl (.string tk) rfl) trivial ?_
      simp only [Act.put, List.setIfInBounds_toArray, List.set_cons_zero, List.set_cons_succ]
      refine d_rc (TkN z wr) 1 43 3 45 (by kernel_rfl) rfl rfl rfl rfl rfl rfl (er_ldL _ rfl pb (0 + 6) (.slice ya k yc) rfl HC6.out) (er_cNum _ _ rfl (.string tk) rfl) HCL.out trivial ?_ (fun u W _ hT => ?_)
      · simp only [Act.put, List.setIfInBounds_toArray, List.set_cons_zero, List.set_cons_succ]
        refine d_callN (TkN z wr) 3 45 (by kernel_rfl) rfl rfl rfl (er_cNum _ _ rfl (.string tk) rfl) HCL.out (fun u W _ hT => ?_)
        obtain ⟨rfl, kW⟩ := hT
        simp only [Act.put, List.setIfInBounds_toArray, List.set_cons_zero, List.set_cons_succ]
        refine d_make 4 46 (by kernel_rfl) rfl rfl rfl (er_bs1 _ rfl z rfl) trivial ?_
        simp only [Act.put, List.setIfInBounds_toArray, List.set_cons_zero, List.set_cons_succ]
        obtain ⟨gg, cc, w5, hrun, own5, kk5⟩ := apK_run (w := W.alloc (.cells #[.int .i64 z] 2)) 23 2 w2.heap.size (.int .i64 0) 1 8 Tryz.underlying23 Tryz.infoW rfl (by decide) (.slice ya k yc) k ((zs.take k).map iv) (((kW.alloc _).owns HR.out.2.1 (fun _ _ e => e))) (by rw [World.size_alloc]; have h1 := kW.size; have h2 := HR.out.2.2.size; omega) ⟨W.heap.size, 0, none⟩ 1 1 [.int .i64 z] rfl (cell_one_new _ _ _) (one_one _ _) (by omega) (by omega) (by decide)
        refine d_make 5 47 (by kernel_rfl) rfl rfl rfl (er_appW _ _ rfl (.slice ya k yc) (.slice (some ⟨W.heap.size, 0, none⟩) 1 1) rfl rfl _ _ rfl hrun) trivial ?_
        simp only [Act.put, List.setIfInBounds_toArray, List.set_cons_zero, List.set_cons_succ]
        refine d_take 6 48 rfl rfl (by kernel_rfl) (by kernel_rfl) (by kernel_rfl) (fun _ _ _ h => h) rfl (fun w' hw' => er_fD _ rfl pb 0 rfl) trivial ?_
        simp only [Act.put, List.setIfInBounds_toArray, List.set_cons_zero, List.set_cons_succ]
        obtain ⟨b5, hpne⟩ : w5.heap[pb]? = some (.cells (R7 n0 n1 n2 n3 n4 n5 (.slice ya k yc)) 25) ∧ gg ≠ pb := ev_pb HR.out.1 HR.out.2.1 kW kk5 own5
        refine d_turn 7 (by kernel_rfl) rfl rfl rfl (er_stW _ _ rfl pb (0 + 6) (some ⟨gg, 0, none⟩) (k + 1) cc (.slice ya k yc) rfl rfl ((cell_blk b5 6).trans rfl) (fz_blk b5 6)) trivial ?_
        refine wpAnyH_done (by kernel_rfl) ?_ _
        have HX := hid (ev_next (zs := zs) (k := k) (z := z) HR.out.2.2 kW kk5 own5 b5 hpne H3.out.2.2 HR.out.2.1 hzt.out)
        clear hrun own5 kk5 b5 hpne kW
        go_wp2
        refine ⟨⟨k + 1, some ⟨gg, 0, none⟩, cc, by omega, by go_num, HX.out⟩, ?_⟩
        simp [intOf]; omega
      · obtain ⟨rfl, kW⟩ := hT
        simp only [Act.put, List.setIfInBounds_toArray, List.set_cons_zero, List.set_cons_succ]
        refine d_pair 1 43 4 46 (by kernel_rfl) rfl rfl rfl rfl rfl rfl (er_ldL _ rfl pb (0 + 6) (.slice ya k yc) rfl (kW.cell HC6.out (fun e => e))) (er_bs1 _ rfl z rfl) trivial trivial ?_ ?_
        · simp only [Act.put, List.setIfInBounds_toArray, List.set_cons_zero, List.set_cons_succ]
          refine d_make 4 46 (by kernel_rfl) rfl rfl rfl (er_bs1 _ rfl z rfl) trivial ?_
          simp only [Act.put, List.setIfInBounds_toArray, List.set_cons_zero, List.set_cons_succ]
          obtain ⟨gg, cc, w5, hrun, own5, kk5⟩ := apK_run (w := W.alloc (.cells #[.int .i64 z] 2)) 23 2 w2.heap.size (.int .i64 0) 1 8 Tryz.underlying23 Tryz.infoW rfl (by decide) (.slice ya k yc) k ((zs.take k).map iv) (((kW.alloc _).owns HR.out.2.1 (fun _ _ e => e))) (by rw [World.size_alloc]; have h1 := kW.size; have h2 := HR.out.2.2.size; omega) ⟨W.heap.size, 0, none⟩ 1 1 [.int .i64 z] rfl (cell_one_new _ _ _) (one_one _ _) (by omega) (by omega) (by decide)
          refine d_make 5 47 (by kernel_rfl) rfl rfl rfl (er_appW _ _ rfl (.slice ya k yc) (.slice (some ⟨W.heap.size, 0, none⟩) 1 1) rfl rfl _ _ rfl hrun) trivial ?_
          simp only [Act.put, List.setIfInBounds_toArray, List.set_cons_zero, List.set_cons_succ]
          refine d_take 6 48 rfl rfl (by kernel_rfl) (by kernel_rfl) (by kernel_rfl) (fun _ _ _ h => h) rfl (fun w' hw' => er_fD _ rfl pb 0 rfl) trivial ?_
          simp only [Act.put, List.setIfInBounds_toArray, List.set_cons_zero, List.set_cons_succ]
          obtain ⟨b5, hpne⟩ : w5.heap[pb]? = some (.cells (R7 n0 n1 n2 n3 n4 n5 (.slice ya k yc)) 25) ∧ gg ≠ pb := ev_pb HR.out.1 HR.out.2.1 kW kk5 own5
          refine d_turn 7 (by kernel_rfl) rfl rfl rfl (er_stW _ _ rfl pb (0 + 6) (some ⟨gg, 0, none⟩) (k + 1) cc (.slice ya k yc) rfl rfl ((cell_blk b5 6).trans rfl) (fz_blk b5 6)) trivial ?_
          refine wpAnyH_done (by kernel_rfl) ?_ _
          have HX := hid (ev_next (zs := zs) (k := k) (z := z) HR.out.2.2 kW kk5 own5 b5 hpne H3.out.2.2 HR.out.2.1 hzt.out)
          clear hrun own5 kk5 b5 hpne kW
          go_wp2
          refine ⟨⟨k + 1, some ⟨gg, 0, none⟩, cc, by omega, by go_num, HX.out⟩, ?_⟩
          simp [intOf]; omega
        · simp only [Act.put, List.setIfInBounds_toArray, List.set_cons_zero, List.set_cons_succ]
          refine d_read 1 43 (by kernel_rfl) rfl rfl rfl (er_ldL _ rfl pb (0 + 6) (.slice ya k yc) rfl ((kW.alloc _).cell HC6.out (fun e => e))) trivial ?_
          simp only [Act.put, List.setIfInBounds_toArray, List.set_cons_zero, List.set_cons_succ]
          obtain ⟨gg, cc, w5, hrun, own5, kk5⟩ := apK_run (w := W.alloc (.cells #[.int .i64 z] 2)) 23 2 w2.heap.size (.int .i64 0) 1 8 Tryz.underlying23 Tryz.infoW rfl (by decide) (.slice ya k yc) k ((zs.take k).map iv) (((kW.alloc _).owns HR.out.2.1 (fun _ _ e => e))) (by rw [World.size_alloc]; have h1 := kW.size; have h2 := HR.out.2.2.size; omega) ⟨W.heap.size, 0, none⟩ 1 1 [.int .i64 z] rfl (cell_one_new _ _ _) (one_one _ _) (by omega) (by omega) (by decide)
          refine d_make 5 47 (by kernel_rfl) rfl rfl rfl (er_appW _ _ rfl (.slice ya k yc) (.slice (some ⟨W.heap.size, 0, none⟩) 1 1) rfl rfl _ _ rfl hrun) trivial ?_
          simp only [Act.put, List.setIfInBounds_toArray, List.set_cons_zero, List.set_cons_succ]
          refine d_take 6 48 rfl rfl (by kernel_rfl) (by kernel_rfl) (by kernel_rfl) (fun _ _ _ h => h) rfl (fun w' hw' => er_fD _ rfl pb 0 rfl) trivial ?_
          simp only [Act.put, List.setIfInBounds_toArray, List.set_cons_zero, List.set_cons_succ]
          obtain ⟨b5, hpne⟩ : w5.heap[pb]? = some (.cells (R7 n0 n1 n2 n3 n4 n5 (.slice ya k yc)) 25) ∧ gg ≠ pb := ev_pb HR.out.1 HR.out.2.1 kW kk5 own5
          refine d_turn 7 (by kernel_rfl) rfl rfl rfl (er_stW _ _ rfl pb (0 + 6) (some ⟨gg, 0, none⟩) (k + 1) cc (.slice ya k yc) rfl rfl ((cell_blk b5 6).trans rfl) (fz_blk b5 6)) trivial ?_
          refine wpAnyH_done (by kernel_rfl) ?_ _
          have HX := hid (ev_next (zs := zs) (k := k) (z := z) HR.out.2.2 kW kk5 own5 b5 hpne H3.out.2.2 HR.out.2.1 hzt.out)
          clear hrun own5 kk5 b5 hpne kW
          go_wp2
          refine ⟨⟨k + 1, some ⟨gg, 0, none⟩, cc, by omega, by go_num, HX.out⟩, ?_⟩
          simp [intOf]; omega
    · have hltz : ¬ (k : Int) < (dn : Int) := by omega
      obtain rfl : k = dn := by omega
      rw [List.take_of_length_le (by rw [HZL.out]; exact Nat.le_refl _)] at own
      have LP := hid (ldSt (w := wr) (b := pb) (o := 0) 25 _ (R7 n0 n1 n2 n3 n4 n5 (.slice ya k yc)) (fun j v hv => by rw [Nat.zero_add, cell_blk hpb, ← Array.getElem?_toList]; exact hv) Tryz.underlying25 rfl Tryz.infoI4)
      have H4 := hid (And.intro (kr.at' HH.out.2 (fun e => e)) (And.intro own (HH.out.1.trans kr (fun _ e => e.elim))))
      clear hpb own kr
      go_wp2_with (first
        | (refine l_take 50 rfl rfl (er_ldX 25 (.tmp 3) rfl (.pointer (some ⟨pb, 0, none⟩)) (.agg (R7 n0 n1 n2 n3 n4 n5 (.slice ya k yc))) rfl LP.out) ?_)
        | (refine l_turn rfl rfl (er_stI _ _ rfl w.heap.size (R7 n0 n1 n2 n3 n4 n5 (.slice ya k yc)) _ rfl rfl H4.out.1 rfl rfl (by simp [R7, Value.oneCell'])) ?_))
      have hfin := setRow_heap _ _ _ (R7 n0 n1 n2 n3 n4 n5 (.slice ya k yc)) _ (0, 0) H4.out.1
      refine bodyPost_ret (results_cell_row rfl _ _ w.heap.size 25 (R7 n0 n1 n2 n3 n4 n5 (.slice ya k yc)) (0, 0) _ rfl hfin Tryz.underlying25 rfl (by kernel_rfl)) rfl ?_
      have kq : Kept (fun b => b = w.heap.size) wr (wr.setRow w.heap.size (R7 n0 n1 n2 n3 n4 n5 (.slice ya k yc))) := (Kept.refl (fun b => b = w.heap.size) wr).setRow (.inl rfl) _
      exact ⟨ya, yc, rfl, kq.owns (owns_base H4.out.2.1 (by have := hs2.out; omega)) (fun b hb e => by have := (owns_blk H4.out.2.1 hb).1; have := hs2.out; omega), H4.out.2.2.setRow (.inr (Nat.le_refl _)) _⟩
end Go.Proofs.YtjhhldgbllbbhaaGreatDoor
