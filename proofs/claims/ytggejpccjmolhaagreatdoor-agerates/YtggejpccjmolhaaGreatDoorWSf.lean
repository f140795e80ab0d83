/-
  haveRoom, Stay, Safe.
-/
import Derived.Test.YtggejpccjmolhaaGreatDoorG43
import Derived.Deep.RegionWith
namespace Go.Proofs.YtggejpccjmolhaaGreatDoor
open Go.RowKit Plain
set_option linter.unusedVariables false
set_option linter.unusedSimpArgs false
set_option maxRecDepth 100000

section
variable {o : Oper} {a : Act} {w : World} {C : World → Prop} {K : Act → Prop}
theorem er_fCh1 (x : Operand) (ho : o.op = .fieldAddr 34 x 1) (g k : Nat) (hx : a.eval x = .pointer (some ⟨g, k, none⟩)) : (execOp a.eval o).run Tryz.prog w = .ok (.value (.pointer (some ⟨g, k + 1, none⟩))) w := by
  simp only [execOp, ho, hx]; simp [go_sem, add_none]
theorem er_fCh4 (x : Operand) (ho : o.op = .fieldAddr 34 x 4) (g k : Nat) (hx : a.eval x = .pointer (some ⟨g, k, none⟩)) : (execOp a.eval o).run Tryz.prog w = .ok (.value (.pointer (some ⟨g, k + 4, none⟩))) w := by
  simp only [execOp, ho, hx]; simp [go_sem, add_none]
theorem er_fPo4 (x : Operand) (ho : o.op = .fieldAddr 41 x 4) (g k : Nat) (hx : a.eval x = .pointer (some ⟨g, k, none⟩)) : (execOp a.eval o).run Tryz.prog w = .ok (.value (.pointer (some ⟨g, k + 4, none⟩))) w := by
  simp only [execOp, ho, hx]; simp [go_sem, add_none]
theorem er_fIm2 (x : Operand) (ho : o.op = .fieldAddr 26 x 2) (g k : Nat) (hx : a.eval x = .pointer (some ⟨g, k, none⟩)) : (execOp a.eval o).run Tryz.prog w = .ok (.value (.pointer (some ⟨g, k + 2, none⟩))) w := by
  simp only [execOp, ho, hx]; simp [go_sem, add_none]
theorem er_ldChs (x : Operand) (ho : o.op = .load 24 x) (g off : Nat) (v : Value) (hx : a.eval x = .pointer (some ⟨g, off, none⟩)) (hr : w.cell? ⟨g, off, none⟩ = some v) : (execOp a.eval o).run Tryz.prog w = .ok (.value v) w := by
  simp only [execOp, ho, hx]; simp [go_sem, hr]
theorem er_ixCh (x y : Operand) (ho : o.op = .indexAddr 24 x y) (b off n c d : Nat) (hd : d < n) (hn : n ≤ 9223372036854775807) (hx : a.eval x = .slice (some ⟨b, off, none⟩) n c) (hy : a.eval y = .int .i64 d) : (execOp a.eval o).run Tryz.prog w = .ok (.value (.pointer (some ⟨b, off + d * 5, none⟩))) w := by
  simp only [execOp, ho, hx, hy]
  simp [go_sem, add_none]
  omega
theorem er_mlN (x y : Operand) (ho : o.op = .binOp .mul 3 x y 3) (k l r : Int) (hx : a.eval x = .int .i64 k) (hy : a.eval y = .int .i64 l) (hr : wrap64 (k * l) = r) : (execOp a.eval o).run Tryz.prog w = .ok (.value (.int .i64 r)) w := by
  subst hr
  simp only [execOp, ho, hx, hy]; simp [go_sem, w64i]
theorem er_ltN (x y : Operand) (ho : o.op = .binOp .lss 3 x y 3) (k l : Int) (b : Bool) (hx : a.eval x = .int .i64 k) (hy : a.eval y = .int .i64 l) (hb : decide (k < l) = b) : (execOp a.eval o).run Tryz.prog w = .ok (.value (.bool b)) w := by
  subst hb
  simp only [execOp, ho, hx, hy]; simp [go_sem]
theorem quiet_room (x0 x1 x2 : Operand) (ho : o.op = .call { callee := .value (.func 27), args := #[x0, x1, x2], argTypes := #[26, 27, 3] }) (v0 v1 v2 v : Value) (h0 : a.eval x0 = v0) (h1 : a.eval x1 = v1) (h2 : a.eval x2 = v2)
    (hc : ∀ w, C w → Calls Tryz.prog 27 #[v0, v1, v2] w fun e w'' => e = .returned v ∧ C w'') (hk : K (a.put o.dst v)) : o.quiet Tryz.prog a C K :=
  quiet_callP (f := 27) (args := #[v0, v1, v2]) (fun w => by subst h0 h1 h2; simp [execOp, ho, go_sem, Act.eval]) hc hk
end
theorem ld_img {W : World} {b : Nat} {v0 v1 v2 : Value} (h0 : W.cell? ⟨b, 0, none⟩ = some v0) (h1 : W.cell? ⟨b, 1, none⟩ = some v1) (h2 : W.cell? ⟨b, 2, none⟩ = some v2) :
    (Instr.loadAt 26 (.pointer (some ⟨b, 0, none⟩))).run Tryz.prog W = .ok (.agg #[v0, v1, v2]) W :=
  run_loadAt_mid W b 0 _ [v0, v1, v2] _ (fun j v hv => by
      match j, hv with
      | 0, hv => cases hv; exact h0
      | 1, hv => cases hv; exact h1
      | 2, hv => cases hv; exact h2
      | j + 3, hv => simp at hv) Tryz.underlying26 rfl sizeEIm
attribute [local irreducible] wpQuiet

set_option maxHeartbeats 8000000 in
/-- one port has no room -/
theorem roomC_any {F : Nat → Prop} {v0 v2 : Value} {a : Option Addr} {n c : Nat} {ps : List Po} (b0 b1 : Nat) (m : Int) (w : World) (hP : Ls 6 elPo w F a n c ps) (zs : List Int) (hz : ∀ z ∈ zs, 1 ≤ z ∧ z ≤ n)
    (i0 : w.cell? ⟨b0, 0, none⟩ = some v0) (i1 : w.cell? ⟨b0, 1, none⟩ = some (.slice a n c)) (i2 : w.cell? ⟨b0, 2, none⟩ = some v2) (m0 : w.cell? ⟨b1, 0, none⟩ = some (.int .i64 m)) :
    Prd 41 #[.pointer (some ⟨b0, 0, none⟩), .pointer (some ⟨b1, 0, none⟩)] (fun k => decide ((poAt ps k).dp < m)) w zs := by
  intro W x hx k
  obtain ⟨z1, z2⟩ := hz x hx
  have hn : n ≤ 9223372036854775807 := Nat.le_trans hP.cap hP.max
  obtain ⟨j, pb, po, rfl, hjn, rfl, _, _, _, _, _, p4, _⟩ := po_at (hP.kept k (fun _ _ h => h) (elPo_kept k (fun _ _ h => h))) z1 z2
  have HI : Hid (∀ U, Kept No W U → U.cell? ⟨b0, 1, none⟩ = some (.slice (some ⟨pb, po, none⟩) n c)) := fun U kU => (k.trans kU (fun _ h => h.elim)).cell i1 (fun h => h)
  have HM : Hid (∀ U, Kept No W U → U.cell? ⟨b1, 0, none⟩ = some (.int .i64 m)) := fun U kU => (k.trans kU (fun _ h => h.elim)).cell m0 (fun h => h)
  have HD : Hid (∀ U, Kept No W U → U.cell? ⟨pb, po + j * 6 + 4, none⟩ = some (.int .i64 (poAt ps ((j : Int) + 1)).dp)) := fun U kU => kU.cell p4 (fun h => h)
  have HQ : Hid (j < n ∧ n ≤ 9223372036854775807) := ⟨hjn, hn⟩
  have hjw : Hid (wrap64 ((j : Int) + 1 - 1) = (j : Int)) := by show _ = _; unfold wrap64; omega
  clear hP i0 i1 i2 m0 p4 hx z1 z2 hz hjn hn
  show Calls Tryz.prog 41 #[.int .i64 ((j : Int) + 1), .pointer (some ⟨b0, 0, none⟩), .pointer (some ⟨b1, 0, none⟩)] W fun e W' => e = .returned (.bool (decide ((poAt ps ((j : Int) + 1)).dp < m))) ∧ Kept No W W'
  generalize (poAt ps ((j : Int) + 1)).dp = d at *
  obtain ⟨R, hR⟩ : ∃ R, R = decide (d < m) := ⟨_, rfl⟩
  rw [← hR]
  have HR := hid hR.symm
  clear hR
  go_enter Tryz.func41, Tryz.ntmps41
  go_upto_region 1 with fail
  refine wp_region_keptA W (by kernel_rfl) (by kernel_rfl) (Kept.refl No W) ?_
  refine BigFrame.wpQuiet_want rfl (fun KQ hKQ => ?_)
  refine quiet_valP (fun w5 hw5 => er_fIm1 _ rfl b0 0 rfl) ?_
  refine hKQ _ ?_
  clear hKQ KQ
  simp only [Act.put, List.setIfInBounds_toArray, List.set_cons_zero, List.set_cons_succ]
  refine BigFrame.wpQuiet_want rfl (fun KQ hKQ => ?_)
  refine quiet_valP (fun w5 hw5 => er_ldPos _ rfl b0 (0 + 1) (.slice (some ⟨pb, po, none⟩) n c) rfl (by rw [Nat.zero_add]; exact HI.out w5 hw5)) ?_
  refine hKQ _ ?_
  clear hKQ KQ
  simp only [Act.put, List.setIfInBounds_toArray, List.set_cons_zero, List.set_cons_succ]
  refine BigFrame.wpQuiet_want rfl (fun KQ hKQ => ?_)
  refine quiet_valP (fun w5 hw5 => er_mv _ rfl (.int .i64 ((j : Int) + 1)) rfl) ?_
  refine hKQ _ ?_
  clear hKQ KQ
  simp only [Act.put, List.setIfInBounds_toArray, List.set_cons_zero, List.set_cons_succ]
  refine BigFrame.wpQuiet_want rfl (fun KQ hKQ => ?_)
  refine quiet_valP (fun w5 hw5 => er_sbN _ _ rfl ((j : Int) + 1) 1 (j : Int) rfl rfl hjw.out) ?_
  refine hKQ _ ?_
  clear hKQ KQ
  simp only [Act.put, List.setIfInBounds_toArray, List.set_cons_zero, List.set_cons_succ]
  refine BigFrame.wpQuiet_want rfl (fun KQ hKQ => ?_)
  refine quiet_valP (fun w5 hw5 => er_idxPoC _ _ rfl pb po n c j HQ.out.1 HQ.out.2 rfl rfl) ?_
  refine hKQ _ ?_
  clear hKQ KQ
  simp only [Act.put, List.setIfInBounds_toArray, List.set_cons_zero, List.set_cons_succ]
  refine BigFrame.wpQuiet_want rfl (fun KQ hKQ => ?_)
  refine quiet_valP (fun w5 hw5 => er_fPo4 _ rfl pb (po + j * 6) rfl) ?_
  refine hKQ _ ?_
  clear hKQ KQ
  simp only [Act.put, List.setIfInBounds_toArray, List.set_cons_zero, List.set_cons_succ]
  refine BigFrame.wpQuiet_want rfl (fun KQ hKQ => ?_)
  refine quiet_valP (fun w5 hw5 => er_ldInt _ rfl pb (po + j * 6 + 4) (.int .i64 d) rfl (HD.out w5 hw5)) ?_
  refine hKQ _ ?_
  clear hKQ KQ
  simp only [Act.put, List.setIfInBounds_toArray, List.set_cons_zero, List.set_cons_succ]
  refine BigFrame.wpQuiet_want rfl (fun KQ hKQ => ?_)
  refine quiet_valP (fun w5 hw5 => er_ldInt _ rfl b1 0 (.int .i64 m) rfl (HM.out w5 hw5)) ?_
  refine hKQ _ ?_
  clear hKQ KQ
  simp only [Act.put, List.setIfInBounds_toArray, List.set_cons_zero, List.set_cons_succ]
  refine BigFrame.wpQuiet_want rfl (fun KQ hKQ => ?_)
  refine quiet_valP (fun w5 hw5 => er_ltN _ _ rfl d m R rfl rfl HR.out) ?_
  refine hKQ _ ?_
  clear hKQ KQ
  simp only [Act.put, List.setIfInBounds_toArray, List.set_cons_zero, List.set_cons_succ]
  refine BigFrame.wpQuiet_want rfl (fun KQ hKQ => ?_)
  refine quiet_valP (fun w5 hw5 => er_as _ rfl (.bool R) rfl) ?_
  refine hKQ _ ?_
  clear hKQ KQ
  simp only [Act.put, List.setIfInBounds_toArray, List.set_cons_zero, List.set_cons_succ]
  unfold wpQuiet
  intro wq hq
  go_wp2
  go_ret
  exact ⟨rfl, hq⟩

/-- all have room -/
def rmB (ps : List Po) (zs : List Int) (m : Int) : Bool := !(zs.any fun k => decide ((poAt ps k).dp < m))
set_option maxHeartbeats 8000000 in
theorem room_any {F : Nat → Prop} {v0 v2 : Value} {a : Option Addr} {n c : Nat} {ps : List Po} {b : Option Addr} {l d : Nat} {zs : List Int} (m : Int) (w : World) (hP : Ls 6 elPo w F a n c ps) (hZ : Ls 1 elI w F b l d zs) (hz : ∀ z ∈ zs, 1 ≤ z ∧ z ≤ n) :
    Calls Tryz.prog 27 #[.agg #[v0, .slice a n c, v2], .slice b l d, .int .i64 m] w fun e w' => e = .returned (.bool (rmB ps zs m)) ∧ Kept No w w' := by
  have KB : Kept No w ((w.alloc (.cells #[v0, .slice a n c, v2] 26)).alloc (.cells #[.int .i64 m] 3)) := ((Kept.refl No w).alloc _).alloc _
  have B0 := (bk_push w [v0, .slice a n c, v2] 26).kept ((Kept.refl No _).alloc (.cells #[.int .i64 m] 3)) (fun h => h)
  have B1 := bk_two w (.cells #[v0, .slice a n c, v2] 26) [.int .i64 m] 3
  have cP := roomC_any w.heap.size (w.heap.size + 1) m _ (hP.kept KB (fun _ _ h => h) (elPo_kept KB (fun _ _ h => h))) zs hz (B0.cell (j := 0) rfl) (B0.cell (j := 1) rfl) (B0.cell (j := 2) rfl) (B1.cell (j := 0) rfl)
  have cC := containsN_any (eg_of Tryz.func41 (fun args w => rfl)) _ cP (hZ.kept KB (fun _ _ h => h) (elI_kept KB (fun _ _ h => h)))
  have HKB := hid KB
  obtain ⟨R, hR⟩ : ∃ R, R = zs.any fun k => decide ((poAt ps k).dp < m) := ⟨_, rfl⟩
  rw [← hR] at cC
  have HR : Hid (rmB ps zs m = !R) := by show _ = _; unfold rmB; rw [hR]
  rw [HR.out]
  clear hP hZ KB B0 B1 cP HR hR hz
  go_enter Tryz.func27, Tryz.ntmps27
  go_wp2_with (go_at_call 40; refine cC.mono ?_; clear cC; rintro e w1 ⟨rfl, k1⟩; have K1 := hid (HKB.out.trans k1 (fun _ h => h.elim)); clear k1)
  go_ret
  exact ⟨rfl, K1.out⟩

/-- a channel of an image that may be -/
theorem ch_facts {x : Im} (hc : chkF x = none) {i : Nat} (hi : i < x.chans.length) : (∀ z ∈ (x.chans.getD i dCh).dst, 1 ≤ z ∧ z ≤ x.ports.length) ∧ ((x.chans.getD i dCh).fr = 0 ∨ (1 ≤ (x.chans.getD i dCh).fr ∧ (x.chans.getD i dCh).fr ≤ x.ports.length)) ∧ ((x.chans.getD i dCh).kd = 1 → (x.chans.getD i dCh).fr ≠ 0 → (1 ≤ (x.chans.getD i dCh).pe ∧ (x.chans.getD i dCh).pe ≤ 1048576 ∧ 0 ≤ (x.chans.getD i dCh).ph ∧ (x.chans.getD i dCh).ph < (x.chans.getD i dCh).pe)) := by
  have h := bch_all hc hi
  have h1 : ((x.chans.getD i dCh).fr == 0 || fitB x.ports (x.chans.getD i dCh).fr true (x.chans.getD i dCh).kd) = true := h 1 (by omega)
  have h3 : goesB x.ports (x.chans.getD i dCh).kd 0 (x.chans.getD i dCh).dst = true := h 3 (by omega)
  have h7 : timesB (x.chans.getD i dCh) = true := h 7 (by omega)
  generalize x.chans.getD i dCh = z at *
  refine ⟨fun y hy => fit_in (goes_mem h3 y hy), ?_, ?_⟩
  · rcases Bool.or_eq_true _ _ |>.mp h1 with h2 | h2
    · exact .inl (by simpa using h2)
    · exact .inr (fit_in h2)
  · intro hk hf
    unfold timesB at h7
    rw [if_pos ⟨hk, hf⟩] at h7
    simp only [inB, Bool.and_eq_true, decide_eq_true_eq] at h7
    obtain ⟨⟨a1, a2⟩, a3, a4⟩ := h7
    have : wrap64 (z.pe - 1) = z.pe - 1 := by unfold wrap64; omega
    omega
theorem chNo_at (L : List Ch) (j : Nat) (h : j < L.length) : chNo L ((j : Int) + 1) = L.getD j dCh := by
  unfold chNo
  have hB : inB ((j : Int) + 1) 1 L.length = true := by unfold inB; simp only [Bool.and_eq_true, decide_eq_true_eq]; omega
  rw [hB, if_pos rfl]
  congr 1

def syV (x : Im) (k : Int) : Int := if cnB x.chans k then wrap64 ((poAt x.ports (chNo x.chans k).fr).dp * (chNo x.chans k).pe) else 0
set_option maxHeartbeats 8000000 in
theorem stayC_any {F : Nat → Prop} {v0 : Value} {a1 : Option Addr} {n1 c1 : Nat} {a : Option Addr} {n c : Nat} {x : Im} (hck : chkF x = none) (b0 b1 : Nat) (k : Int) (w : World) (hP : Ls 6 elPo w F a1 n1 c1 x.ports) (hL : Ls 5 elCh w F a n c x.chans) (hk6 : -9223372036854775808 ≤ k ∧ k ≤ 9223372036854775807)
    (i0 : w.cell? ⟨b0, 0, none⟩ = some v0) (i1 : w.cell? ⟨b0, 1, none⟩ = some (.slice a1 n1 c1)) (i2 : w.cell? ⟨b0, 2, none⟩ = some (.slice a n c)) (k0 : w.cell? ⟨b1, 0, none⟩ = some (.int .i64 k)) :
    Calls Tryz.prog 37 #[.pointer (some ⟨b0, 0, none⟩), .pointer (some ⟨b1, 0, none⟩)] w fun e w' => e = .returned (.tuple #[.int .i64 (syV x k), .bool (cnB x.chans k)]) ∧ Kept No w w' := by
  have cR := carrier_any F v0 (.slice a1 n1 c1) a n c x.chans k w hL hk6
  have HI1 : Hid (∀ U, Kept No w U → U.cell? ⟨b0, 1, none⟩ = some (.slice a1 n1 c1)) := fun U kU => kU.cell i1 (fun h => h)
  cases hcn : cnB x.chans k
  · have hs : syV x k = 0 := by unfold syV; rw [hcn]; rfl
    rw [hs]
    rw [hcn] at cR
    generalize chNo x.chans k = z at *
    obtain ⟨z0, z1, z2, z3, z4⟩ := z
    simp only at cR
    clear hP hL hck hcn hs
    go_enter Tryz.func37, Tryz.ntmps37
    go_wp2_with (go_at_call 38; refine cR.mono ?_; clear cR; rintro e w1 ⟨ta, tn, tc, rfl, kk1⟩; have K1 := hid kk1; clear kk1)
    go_ret2
    exact ⟨rfl, K1.out.alloc _⟩
  · have hs : syV x k = wrap64 ((poAt x.ports (chNo x.chans k).fr).dp * (chNo x.chans k).pe) := by unfold syV; rw [hcn]; rfl
    rw [hs]
    rw [hcn] at cR
    have hcn2 := hcn
    unfold cnB at hcn2
    simp only [Bool.and_eq_true] at hcn2
    have hkr : 1 ≤ k ∧ k ≤ x.chans.length := by have := hcn2.1; unfold inB at this; simp only [Bool.and_eq_true, decide_eq_true_eq] at this; exact this
    obtain ⟨i, rfl⟩ : ∃ i : Nat, k = i + 1 := ⟨(k - 1).toNat, by omega⟩
    have hfr : 1 ≤ (chNo x.chans ((i : Int) + 1)).fr ∧ (chNo x.chans ((i : Int) + 1)).fr ≤ x.ports.length := by
      have hz : (chNo x.chans ((i : Int) + 1)).fr ≠ 0 := by have := hcn2.2.2; simpa using this
      have h2 := (ch_facts hck (i := i) (by omega)).2.1
      rw [chNo_at x.chans i (by omega)] at hz ⊢
      rcases h2 with h2 | h2
      · exact absurd h2 hz
      · exact h2
    rw [hP.len] at hfr
    have hn : n1 ≤ 9223372036854775807 := Nat.le_trans hP.cap hP.max
    obtain ⟨j, pb, po, hj, hjn, rfl, _, _, _, _, _, p4, _⟩ := po_at hP hfr.1 hfr.2
    have HD : Hid (∀ U, Kept No w U → U.cell? ⟨pb, po + j * 6 + 4, none⟩ = some (.int .i64 (poAt x.ports (chNo x.chans ((i : Int) + 1)).fr).dp)) := fun U kU => kU.cell p4 (fun h => h)
    generalize (poAt x.ports (chNo x.chans ((i : Int) + 1)).fr).dp = d at *
    generalize chNo x.chans ((i : Int) + 1) = z at *
    obtain ⟨z0, z1, z2, z3, z4⟩ := z
    simp only at cR hj ⊢
    subst hj
    have HQ : Hid (j < n1 ∧ n1 ≤ 9223372036854775807) := ⟨hjn, hn⟩
    have hjw : Hid (wrap64 ((j : Int) + 1 - 1) = (j : Int)) := by show _ = _; unfold wrap64; omega
    obtain ⟨R, hR⟩ : ∃ R, R = wrap64 (d * z4) := ⟨_, rfl⟩
    rw [← hR]
    have HR := hid hR.symm
    clear hP hL hck hcn hcn2 hs hfr hkr hR hjn hn p4
    go_enter Tryz.func37, Tryz.ntmps37
    go_upto_region 4 with (go_at_call 38; refine cR.mono ?_; clear cR; rintro e w1 ⟨ta, tn, tc, rfl, kk1⟩; have K1 := hid kk1; clear kk1)
    have HB : Hid (∀ U, Kept No (w1.alloc (.cells #[.int .i64 z0, .int .i64 ((j : Int) + 1), .slice ta tn tc, .int .i64 z3, .int .i64 z4] 34)) U → Kept No w U ∧ U.cell? ⟨w1.heap.size, 1, none⟩ = some (.int .i64 ((j : Int) + 1)) ∧ U.cell? ⟨w1.heap.size, 4, none⟩ = some (.int .i64 z4)) := fun U kU => by
      have b := (bk_push w1 [.int .i64 z0, .int .i64 ((j : Int) + 1), .slice ta tn tc, .int .i64 z3, .int .i64 z4] 34).kept kU (fun h => h)
      exact ⟨(K1.out.alloc _).trans kU (fun _ h => h.elim), b.cell (j := 1) rfl, b.cell (j := 4) rfl⟩
    generalize w1.alloc (.cells #[.int .i64 z0, .int .i64 ((j : Int) + 1), .slice ta tn tc, .int .i64 z3, .int .i64 z4] 34) = w2 at *
    generalize w1.heap.size = b4 at *
    refine wp_region_keptA w2 (by kernel_rfl) (by kernel_rfl) (Kept.refl No w2) ?_
    refine BigFrame.wpQuiet_want rfl (fun KQ hKQ => ?_)
    refine quiet_valP (fun w5 hw5 => er_fIm1 _ rfl b0 0 rfl) ?_
    refine hKQ _ ?_
    clear hKQ KQ
    simp only [Act.put, List.setIfInBounds_toArray, List.set_cons_zero, List.set_cons_succ]
    refine BigFrame.wpQuiet_want rfl (fun KQ hKQ => ?_)
    refine quiet_valP (fun w5 hw5 => er_ldPos _ rfl b0 (0 + 1) (.slice (some ⟨pb, po, none⟩) n1 c1) rfl (by rw [Nat.zero_add]; exact HI1.out w5 (HB.out w5 hw5).1)) ?_
    refine hKQ _ ?_
    clear hKQ KQ
    simp only [Act.put, List.setIfInBounds_toArray, List.set_cons_zero, List.set_cons_succ]
    refine BigFrame.wpQuiet_want rfl (fun KQ hKQ => ?_)
    refine quiet_valP (fun w5 hw5 => er_fCh1 _ rfl b4 0 rfl) ?_
    refine hKQ _ ?_
    clear hKQ KQ
    simp only [Act.put, List.setIfInBounds_toArray, List.set_cons_zero, List.set_cons_succ]
    refine BigFrame.wpQuiet_want rfl (fun KQ hKQ => ?_)
    refine quiet_valP (fun w5 hw5 => er_ldInt _ rfl b4 (0 + 1) (.int .i64 ((j : Int) + 1)) rfl (by rw [Nat.zero_add]; exact (HB.out w5 hw5).2.1)) ?_
    refine hKQ _ ?_
    clear hKQ KQ
    simp only [Act.put, List.setIfInBounds_toArray, List.set_cons_zero, List.set_cons_succ]
    refine BigFrame.wpQuiet_want rfl (fun KQ hKQ => ?_)
    refine quiet_valP (fun w5 hw5 => er_sbN _ _ rfl ((j : Int) + 1) 1 (j : Int) rfl rfl hjw.out) ?_
    refine hKQ _ ?_
    clear hKQ KQ
    simp only [Act.put, List.setIfInBounds_toArray, List.set_cons_zero, List.set_cons_succ]
    refine BigFrame.wpQuiet_want rfl (fun KQ hKQ => ?_)
    refine quiet_valP (fun w5 hw5 => er_idxPoC _ _ rfl pb po n1 c1 j HQ.out.1 HQ.out.2 rfl rfl) ?_
    refine hKQ _ ?_
    clear hKQ KQ
    simp only [Act.put, List.setIfInBounds_toArray, List.set_cons_zero, List.set_cons_succ]
    refine BigFrame.wpQuiet_want rfl (fun KQ hKQ => ?_)
    refine quiet_valP (fun w5 hw5 => er_fPo4 _ rfl pb (po + j * 6) rfl) ?_
    refine hKQ _ ?_
    clear hKQ KQ
    simp only [Act.put, List.setIfInBounds_toArray, List.set_cons_zero, List.set_cons_succ]
    refine BigFrame.wpQuiet_want rfl (fun KQ hKQ => ?_)
    refine quiet_valP (fun w5 hw5 => er_ldInt _ rfl pb (po + j * 6 + 4) (.int .i64 d) rfl (HD.out w5 (HB.out w5 hw5).1)) ?_
    refine hKQ _ ?_
    clear hKQ KQ
    simp only [Act.put, List.setIfInBounds_toArray, List.set_cons_zero, List.set_cons_succ]
    refine BigFrame.wpQuiet_want rfl (fun KQ hKQ => ?_)
    refine quiet_valP (fun w5 hw5 => er_fCh4 _ rfl b4 0 rfl) ?_
    refine hKQ _ ?_
    clear hKQ KQ
    simp only [Act.put, List.setIfInBounds_toArray, List.set_cons_zero, List.set_cons_succ]
    refine BigFrame.wpQuiet_want rfl (fun KQ hKQ => ?_)
    refine quiet_valP (fun w5 hw5 => er_ldInt _ rfl b4 (0 + 4) (.int .i64 z4) rfl (by rw [Nat.zero_add]; exact (HB.out w5 hw5).2.2)) ?_
    refine hKQ _ ?_
    clear hKQ KQ
    simp only [Act.put, List.setIfInBounds_toArray, List.set_cons_zero, List.set_cons_succ]
    refine BigFrame.wpQuiet_want rfl (fun KQ hKQ => ?_)
    refine quiet_valP (fun w5 hw5 => er_mlN _ _ rfl d z4 R rfl rfl HR.out) ?_
    refine hKQ _ ?_
    clear hKQ KQ
    simp only [Act.put, List.setIfInBounds_toArray, List.set_cons_zero, List.set_cons_succ]
    refine BigFrame.wpQuiet_want rfl (fun KQ hKQ => ?_)
    refine quiet_valP (fun w5 hw5 => er_as _ rfl (.int .i64 R) rfl) ?_
    refine hKQ _ ?_
    clear hKQ KQ
    simp only [Act.put, List.setIfInBounds_toArray, List.set_cons_zero, List.set_cons_succ]
    refine BigFrame.wpQuiet_want rfl (fun KQ hKQ => ?_)
    refine quiet_valP (fun w5 hw5 => er_as _ rfl (.bool true) rfl) ?_
    refine hKQ _ ?_
    clear hKQ KQ
    simp only [Act.put, List.setIfInBounds_toArray, List.set_cons_zero, List.set_cons_succ]
    unfold wpQuiet
    intro wq hq
    go_wp2
    go_ret2
    exact ⟨rfl, (HB.out wq hq).1⟩
set_option maxHeartbeats 8000000 in
theorem ageStay_any {F : Nat → Prop} {a0 : Option Addr} {n0 c0 : Nat} {a1 : Option Addr} {n1 c1 : Nat} {a2 : Option Addr} {n2 c2 : Nat} {x : Im} (k : Int) (w : World) (hg : Gl w) (h : Img w F a0 n0 c0 a1 n1 c1 a2 n2 c2 x) (hk6 : -9223372036854775808 ≤ k ∧ k ≤ 9223372036854775807) :
    Calls Tryz.prog 22 #[.agg #[.slice a0 n0 c0, .slice a1 n1 c1, .slice a2 n2 c2], .int .i64 k] w fun e w' => e = .returned (.tuple #[.int .i64 (askN (fe (chkF x)) (cnB x.chans k) (syV x k)), .int .i64 (askE (fe (chkF x)) (cnB x.chans k))]) ∧ Kept No w w' := by
  have KB : Kept No w ((w.alloc (.cells #[.slice a0 n0 c0, .slice a1 n1 c1, .slice a2 n2 c2] 26)).alloc (.cells #[.int .i64 k] 3)) := ((Kept.refl No w).alloc _).alloc _
  have B0 := (bk_push w [.slice a0 n0 c0, .slice a1 n1 c1, .slice a2 n2 c2] 26).kept ((Kept.refl No _).alloc (.cells #[.int .i64 k] 3)) (fun h => h)
  have B1 := bk_two w (.cells #[.slice a0 n0 c0, .slice a1 n1 c1, .slice a2 n2 c2] 26) [.int .i64 k] 3
  have i0 := B0.cell (j := 0) rfl
  have i1 := B0.cell (j := 1) rfl
  have i2 := B0.cell (j := 2) rfl
  have k0 := B1.cell (j := 0) rfl
  have cA := askI_any 37 #[.pointer (some ⟨w.heap.size, 0, none⟩), .pointer (some ⟨w.heap.size + 1, 0, none⟩)] (syV x k) (cnB x.chans k) _ (eg_of Tryz.func37 (fun args w => rfl)) (hg.kept KB) (h.kept KB (fun _ _ h => h)) (fun W kw hck => stayC_any (F := F) hck w.heap.size (w.heap.size + 1) k W (h.qs.kept (KB.trans kw (fun _ h => h.elim)) (fun _ _ h => h) (elPo_kept (KB.trans kw (fun _ h => h.elim)) (fun _ _ h => h))) (h.cs.kept (KB.trans kw (fun _ h => h.elim)) (fun _ _ h => h) (elCh_kept (KB.trans kw (fun _ h => h.elim)) (fun _ _ h => h))) hk6 (kw.cell i0 (fun h => h)) (kw.cell i1 (fun h => h)) (kw.cell i2 (fun h => h)) (kw.cell k0 (fun h => h)))
  have HKB := hid KB
  generalize askN (fe (chkF x)) (cnB x.chans k) (syV x k) = V at *
  generalize askE (fe (chkF x)) (cnB x.chans k) = E at *
  clear hg h hk6 KB B0 B1
  go_enter Tryz.func22, Tryz.ntmps22
  go_wp2_with (go_at_call 11; refine cA.mono ?_; clear cA; rintro e w1 ⟨rfl, k1⟩; have K1 := hid (HKB.out.trans k1 (fun _ h => h.elim)); clear k1)
  go_ret2
  exact ⟨rfl, K1.out⟩

def sfB (x : Im) (k t : Int) : Bool := rtB x.chans k t && rmB x.ports (chNo x.chans k).dst (rtV x.chans k t)
set_option maxHeartbeats 8000000 in
theorem safeC_any {F : Nat → Prop} {v0 : Value} {a1 : Option Addr} {n1 c1 : Nat} {a : Option Addr} {n c : Nat} {x : Im} (hck : chkF x = none) (b0 b1 b2 : Nat) (k t : Int) (w : World) (hP : Ls 6 elPo w F a1 n1 c1 x.ports) (hL : Ls 5 elCh w F a n c x.chans) (hk6 : -9223372036854775808 ≤ k ∧ k ≤ 9223372036854775807)
    (hb : Bxs w b0 b1 b2 v0 (.slice a1 n1 c1) (.slice a n c) k t) :
    Calls Tryz.prog 26 #[.pointer (some ⟨b0, 0, none⟩), .pointer (some ⟨b1, 0, none⟩), .pointer (some ⟨b2, 0, none⟩)] w fun e w' => e = .returned (.tuple #[.bool (sfB x k t), .bool (rtB x.chans k t)]) ∧ Kept No w w' := by
  have cR := rate_any F v0 (.slice a1 n1 c1) a n c x.chans k t w hL hk6
  have HX := hid hb
  obtain ⟨i0, i1, i2, k0, t0⟩ := hb
  obtain ⟨V, hV⟩ : ∃ V, V = rtV x.chans k t := ⟨_, rfl⟩
  cases hrb : rtB x.chans k t
  · have hs : sfB x k t = false := by unfold sfB; rw [hrb]; rfl
    rw [hs]
    rw [hrb, ← hV] at cR
    clear hP hL hck hs hrb hV
    go_enter Tryz.func26, Tryz.ntmps26
    go_upto_region 2 with (go_at_call 24; refine cR.mono ?_; clear cR; rintro e w1 ⟨rfl, kk1⟩; have K1 := hid kk1; clear kk1)
    refine wp_region_keptA w1 (by kernel_rfl) (by kernel_rfl) (Kept.refl No w1) ?_
    refine BigFrame.wpQuiet_want rfl (fun KQ hKQ => ?_)
    refine quiet_valP (fun w5 hw5 => er_mv _ rfl (.bool false) rfl) ?_
    refine hKQ _ ?_
    clear hKQ KQ
    simp only [Act.put, List.setIfInBounds_toArray, List.set_cons_zero, List.set_cons_succ]
    refine BigFrame.wpQuiet_want rfl (fun KQ hKQ => ?_)
    refine quiet_valP (fun w5 hw5 => er_mv _ rfl (.bool false) rfl) ?_
    refine hKQ _ ?_
    clear hKQ KQ
    simp only [Act.put, List.setIfInBounds_toArray, List.set_cons_zero, List.set_cons_succ]
    refine BigFrame.wpQuiet_skip rfl ?_
    simp only [Act.put, List.setIfInBounds_toArray, List.set_cons_zero, List.set_cons_succ]
    refine BigFrame.wpQuiet_skip rfl ?_
    simp only [Act.put, List.setIfInBounds_toArray, List.set_cons_zero, List.set_cons_succ]
    refine BigFrame.wpQuiet_skip rfl ?_
    simp only [Act.put, List.setIfInBounds_toArray, List.set_cons_zero, List.set_cons_succ]
    refine BigFrame.wpQuiet_skip rfl ?_
    simp only [Act.put, List.setIfInBounds_toArray, List.set_cons_zero, List.set_cons_succ]
    refine BigFrame.wpQuiet_skip rfl ?_
    simp only [Act.put, List.setIfInBounds_toArray, List.set_cons_zero, List.set_cons_succ]
    refine BigFrame.wpQuiet_skip rfl ?_
    simp only [Act.put, List.setIfInBounds_toArray, List.set_cons_zero, List.set_cons_succ]
    refine BigFrame.wpQuiet_skip rfl ?_
    simp only [Act.put, List.setIfInBounds_toArray, List.set_cons_zero, List.set_cons_succ]
    refine BigFrame.wpQuiet_skip rfl ?_
    simp only [Act.put, List.setIfInBounds_toArray, List.set_cons_zero, List.set_cons_succ]
    refine BigFrame.wpQuiet_skip rfl ?_
    simp only [Act.put, List.setIfInBounds_toArray, List.set_cons_zero, List.set_cons_succ]
    refine BigFrame.wpQuiet_skip rfl ?_
    simp only [Act.put, List.setIfInBounds_toArray, List.set_cons_zero, List.set_cons_succ]
    refine BigFrame.wpQuiet_want rfl (fun KQ hKQ => ?_)
    refine quiet_valP (fun w5 hw5 => er_pkF _ _ _ rfl (.bool false) rfl rfl) ?_
    refine hKQ _ ?_
    clear hKQ KQ
    simp only [Act.put, List.setIfInBounds_toArray, List.set_cons_zero, List.set_cons_succ]
    refine BigFrame.wpQuiet_want rfl (fun KQ hKQ => ?_)
    refine quiet_valP (fun w5 hw5 => er_mv _ rfl (.bool false) rfl) ?_
    refine hKQ _ ?_
    clear hKQ KQ
    simp only [Act.put, List.setIfInBounds_toArray, List.set_cons_zero, List.set_cons_succ]
    refine BigFrame.wpQuiet_want rfl (fun KQ hKQ => ?_)
    refine quiet_valP (fun w5 hw5 => er_as _ rfl (.bool false) rfl) ?_
    refine hKQ _ ?_
    clear hKQ KQ
    simp only [Act.put, List.setIfInBounds_toArray, List.set_cons_zero, List.set_cons_succ]
    refine BigFrame.wpQuiet_want rfl (fun KQ hKQ => ?_)
    refine quiet_valP (fun w5 hw5 => er_as _ rfl (.bool false) rfl) ?_
    refine hKQ _ ?_
    clear hKQ KQ
    simp only [Act.put, List.setIfInBounds_toArray, List.set_cons_zero, List.set_cons_succ]
    unfold wpQuiet
    intro wq hq
    go_wp2
    go_ret2
    exact ⟨rfl, K1.out.trans hq (fun _ h => h.elim)⟩
  · have hs : sfB x k t = rmB x.ports (chNo x.chans k).dst V := by unfold sfB; rw [hrb, hV]; rfl
    rw [hs]
    rw [hrb, ← hV] at cR
    have hcn : cnB x.chans k = true := by unfold rtB at hrb; simp only [Bool.and_eq_true] at hrb; exact hrb.1
    unfold cnB at hcn
    simp only [Bool.and_eq_true] at hcn
    have hkr : 1 ≤ k ∧ k ≤ x.chans.length := by have := hcn.1; unfold inB at this; simp only [Bool.and_eq_true, decide_eq_true_eq] at this; exact this
    obtain ⟨i, rfl⟩ : ∃ i : Nat, k = i + 1 := ⟨(k - 1).toNat, by omega⟩
    have hil : i < x.chans.length := by omega
    have hdst := (ch_facts hck hil).1
    rw [hP.len] at hdst
    rw [chNo_at _ _ hil]
    have hx : x.chans[i]? = some (x.chans.getD i dCh) := by rw [List.getD, List.getElem?_eq_getElem hil]; rfl
    obtain ⟨bb, oo, ds, rfl, _, _, hr, hE⟩ := hL.at' i _ hx
    obtain ⟨ta, tn, tc, rfl, hT⟩ := hE.sl
    have hin : i < n := by rw [← hL.len]; exact hil
    have hn : n ≤ 9223372036854775807 := Nat.le_trans hL.cap hL.max
    have HT : Hid (∀ U, Kept No w U → U.cell? ⟨bb, oo + i * 5 + 2, none⟩ = some (.slice ta tn tc)) := fun U kU => kU.cell (hr 2 _ rfl) (fun h => h)
    have HRM : Hid (∀ U, Kept No w U → Calls Tryz.prog 27 #[.agg #[v0, .slice a1 n1 c1, .slice (some ⟨bb, oo, none⟩) n c], .slice ta tn tc, .int .i64 V] U fun e w' => e = .returned (.bool (rmB x.ports (x.chans.getD i dCh).dst V)) ∧ Kept No U w') := fun U kU => room_any (F := F) V U (hP.kept kU (fun _ _ h => h) (elPo_kept kU (fun _ _ h => h))) (hT.kept kU (fun _ _ h => h) (elI_kept kU (fun _ _ h => h))) hdst
    have HQ : Hid (i < n ∧ n ≤ 9223372036854775807) := ⟨hin, hn⟩
    have hjw : Hid (wrap64 ((i : Int) + 1 - 1) = (i : Int)) := by show _ = _; unfold wrap64; omega
    generalize rmB x.ports (x.chans.getD i dCh).dst V = R at *
    clear hP hL hck hs hrb hV hcn hkr hil hdst hx hr hE hT hin hn
    go_enter Tryz.func26, Tryz.ntmps26
    go_upto_region 2 with (go_at_call 24; refine cR.mono ?_; clear cR; rintro e w1 ⟨rfl, kk1⟩; have K1 := hid kk1; clear kk1)
    have HU : Hid (∀ U, Kept No w1 U → Kept No w U ∧ Bxs U b0 b1 b2 v0 (.slice a1 n1 c1) (.slice (some ⟨bb, oo, none⟩) n c) ((i : Int) + 1) t) := fun U kU => ⟨K1.out.trans kU (fun _ h => h.elim), HX.out.kept (K1.out.trans kU (fun _ h => h.elim))⟩
    refine wp_region_keptA w1 (by kernel_rfl) (by kernel_rfl) (Kept.refl No w1) ?_
    refine BigFrame.wpQuiet_want rfl (fun KQ hKQ => ?_)
    refine quiet_valP (fun w5 hw5 => er_mv _ rfl (.bool true) rfl) ?_
    refine hKQ _ ?_
    clear hKQ KQ
    simp only [Act.put, List.setIfInBounds_toArray, List.set_cons_zero, List.set_cons_succ]
    refine BigFrame.wpQuiet_want rfl (fun KQ hKQ => ?_)
    refine quiet_valP (fun w5 hw5 => er_mv _ rfl (.bool true) rfl) ?_
    refine hKQ _ ?_
    clear hKQ KQ
    simp only [Act.put, List.setIfInBounds_toArray, List.set_cons_zero, List.set_cons_succ]
    refine BigFrame.wpQuiet_want rfl (fun KQ hKQ => ?_)
    refine quiet_valP (fun w5 hw5 => er_ld _ _ rfl _ _ rfl (ld_img (HU.out w5 hw5).2.i0 (HU.out w5 hw5).2.i1 (HU.out w5 hw5).2.i2)) ?_
    refine hKQ _ ?_
    clear hKQ KQ
    simp only [Act.put, List.setIfInBounds_toArray, List.set_cons_zero, List.set_cons_succ]
    refine BigFrame.wpQuiet_want rfl (fun KQ hKQ => ?_)
    refine quiet_valP (fun w5 hw5 => er_fIm2 _ rfl b0 0 rfl) ?_
    refine hKQ _ ?_
    clear hKQ KQ
    simp only [Act.put, List.setIfInBounds_toArray, List.set_cons_zero, List.set_cons_succ]
    refine BigFrame.wpQuiet_want rfl (fun KQ hKQ => ?_)
    refine quiet_valP (fun w5 hw5 => er_ldChs _ rfl b0 (0 + 2) (.slice (some ⟨bb, oo, none⟩) n c) rfl (by rw [Nat.zero_add]; exact (HU.out w5 hw5).2.i2)) ?_
    refine hKQ _ ?_
    clear hKQ KQ
    simp only [Act.put, List.setIfInBounds_toArray, List.set_cons_zero, List.set_cons_succ]
    refine BigFrame.wpQuiet_want rfl (fun KQ hKQ => ?_)
    refine quiet_valP (fun w5 hw5 => er_ldInt _ rfl b1 0 (.int .i64 ((i : Int) + 1)) rfl (HU.out w5 hw5).2.k0) ?_
    refine hKQ _ ?_
    clear hKQ KQ
    simp only [Act.put, List.setIfInBounds_toArray, List.set_cons_zero, List.set_cons_succ]
    refine BigFrame.wpQuiet_want rfl (fun KQ hKQ => ?_)
    refine quiet_valP (fun w5 hw5 => er_sbN _ _ rfl ((i : Int) + 1) 1 (i : Int) rfl rfl hjw.out) ?_
    refine hKQ _ ?_
    clear hKQ KQ
    simp only [Act.put, List.setIfInBounds_toArray, List.set_cons_zero, List.set_cons_succ]
    refine BigFrame.wpQuiet_want rfl (fun KQ hKQ => ?_)
    refine quiet_valP (fun w5 hw5 => er_ixCh _ _ rfl bb oo n c i HQ.out.1 HQ.out.2 rfl rfl) ?_
    refine hKQ _ ?_
    clear hKQ KQ
    simp only [Act.put, List.setIfInBounds_toArray, List.set_cons_zero, List.set_cons_succ]
    refine BigFrame.wpQuiet_want rfl (fun KQ hKQ => ?_)
    refine quiet_valP (fun w5 hw5 => er_fCh2 _ rfl bb (oo + i * 5) rfl) ?_
    refine hKQ _ ?_
    clear hKQ KQ
    simp only [Act.put, List.setIfInBounds_toArray, List.set_cons_zero, List.set_cons_succ]
    refine BigFrame.wpQuiet_want rfl (fun KQ hKQ => ?_)
    refine quiet_valP (fun w5 hw5 => er_ldIs _ rfl bb (oo + i * 5 + 2) (.slice ta tn tc) rfl (HT.out w5 (HU.out w5 hw5).1)) ?_
    refine hKQ _ ?_
    clear hKQ KQ
    simp only [Act.put, List.setIfInBounds_toArray, List.set_cons_zero, List.set_cons_succ]
    refine BigFrame.wpQuiet_want rfl (fun KQ hKQ => ?_)
    refine quiet_valP (fun w5 hw5 => er_mv _ rfl (.int .i64 V) rfl) ?_
    refine hKQ _ ?_
    clear hKQ KQ
    simp only [Act.put, List.setIfInBounds_toArray, List.set_cons_zero, List.set_cons_succ]
    refine BigFrame.wpQuiet_want rfl (fun KQ hKQ => ?_)
    refine quiet_room _ _ _ rfl (.agg #[v0, .slice a1 n1 c1, .slice (some ⟨bb, oo, none⟩) n c]) (.slice ta tn tc) (.int .i64 V) (.bool R) rfl rfl rfl (fun w5 hw5 => (HRM.out w5 (HU.out w5 hw5).1).mono fun e w6 he => ⟨he.1, hw5.trans he.2 (fun _ h => h.elim)⟩) ?_
    refine hKQ _ ?_
    clear hKQ KQ
    simp only [Act.put, List.setIfInBounds_toArray, List.set_cons_zero, List.set_cons_succ]
    refine BigFrame.wpQuiet_want rfl (fun KQ hKQ => ?_)
    refine quiet_valP (fun w5 hw5 => er_pkT _ _ _ rfl (.bool R) rfl rfl) ?_
    refine hKQ _ ?_
    clear hKQ KQ
    simp only [Act.put, List.setIfInBounds_toArray, List.set_cons_zero, List.set_cons_succ]
    refine BigFrame.wpQuiet_want rfl (fun KQ hKQ => ?_)
    refine quiet_valP (fun w5 hw5 => er_mv _ rfl (.bool true) rfl) ?_
    refine hKQ _ ?_
    clear hKQ KQ
    simp only [Act.put, List.setIfInBounds_toArray, List.set_cons_zero, List.set_cons_succ]
    refine BigFrame.wpQuiet_want rfl (fun KQ hKQ => ?_)
    refine quiet_valP (fun w5 hw5 => er_as _ rfl (.bool R) rfl) ?_
    refine hKQ _ ?_
    clear hKQ KQ
    simp only [Act.put, List.setIfInBounds_toArray, List.set_cons_zero, List.set_cons_succ]
    refine BigFrame.wpQuiet_want rfl (fun KQ hKQ => ?_)
    refine quiet_valP (fun w5 hw5 => er_as _ rfl (.bool true) rfl) ?_
    refine hKQ _ ?_
    clear hKQ KQ
    simp only [Act.put, List.setIfInBounds_toArray, List.set_cons_zero, List.set_cons_succ]
    unfold wpQuiet
    intro wq hq
    go_wp2
    go_ret2
    exact ⟨rfl, K1.out.trans hq (fun _ h => h.elim)⟩
set_option maxHeartbeats 8000000 in
theorem ageSafe_any {F : Nat → Prop} {a0 : Option Addr} {n0 c0 : Nat} {a1 : Option Addr} {n1 c1 : Nat} {a2 : Option Addr} {n2 c2 : Nat} {x : Im} (k t : Int) (w : World) (hg : Gl w) (h : Img w F a0 n0 c0 a1 n1 c1 a2 n2 c2 x) (hk6 : -9223372036854775808 ≤ k ∧ k ≤ 9223372036854775807) :
    Calls Tryz.prog 9 #[.agg #[.slice a0 n0 c0, .slice a1 n1 c1, .slice a2 n2 c2], .int .i64 k, .int .i64 t] w fun e w' => e = .returned (.tuple #[.bool (askB (fe (chkF x)) (rtB x.chans k t) (sfB x k t)), .int .i64 (askE (fe (chkF x)) (rtB x.chans k t))]) ∧ Kept No w w' := by
  have KB : Kept No w (((w.alloc (.cells #[.slice a0 n0 c0, .slice a1 n1 c1, .slice a2 n2 c2] 26)).alloc (.cells #[.int .i64 k] 3)).alloc (.cells #[.int .i64 t] 3)) := (((Kept.refl No w).alloc _).alloc _).alloc _
  have hx := bxs_new w (.slice a0 n0 c0) (.slice a1 n1 c1) (.slice a2 n2 c2) k t
  have cA := askL_any 26 #[.pointer (some ⟨w.heap.size, 0, none⟩), .pointer (some ⟨w.heap.size + 1, 0, none⟩), .pointer (some ⟨w.heap.size + 1 + 1, 0, none⟩)] (sfB x k t) (rtB x.chans k t) _ (eg_of Tryz.func26 (fun args w => rfl)) (hg.kept KB) (h.kept KB (fun _ _ h => h)) (fun W kw hck => safeC_any (F := F) hck w.heap.size (w.heap.size + 1) (w.heap.size + 1 + 1) k t W (h.qs.kept (KB.trans kw (fun _ h => h.elim)) (fun _ _ h => h) (elPo_kept (KB.trans kw (fun _ h => h.elim)) (fun _ _ h => h))) (h.cs.kept (KB.trans kw (fun _ h => h.elim)) (fun _ _ h => h) (elCh_kept (KB.trans kw (fun _ h => h.elim)) (fun _ _ h => h))) hk6 (hx.kept kw))
  have HKB := hid KB
  obtain ⟨i0, i1, i2, k0, t0⟩ := hx
  generalize askB (fe (chkF x)) (rtB x.chans k t) (sfB x k t) = V at *
  generalize askE (fe (chkF x)) (rtB x.chans k t) = E at *
  clear hg h hk6 KB
  go_enter Tryz.func9, Tryz.ntmps9
  go_wp2_with (go_at_call 25; refine cA.mono ?_; clear cA; rintro e w1 ⟨rfl, k1⟩; have K1 := hid (HKB.out.trans k1 (fun _ h => h.elim)); clear k1)
  go_ret2
  exact ⟨rfl, K1.out⟩
end Go.Proofs.YtggejpccjmolhaaGreatDoor
