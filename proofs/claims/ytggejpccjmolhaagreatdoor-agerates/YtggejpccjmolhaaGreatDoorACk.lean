/-
  The document's Check of any image.
-/
import Derived.Test.YtggejpccjmolhaaGreatDoorACh
import Derived.Test.YtggejpccjmolhaaGreatDoorG35
import Derived.Test.YtggejpccjmolhaaGreatDoorG32
import Derived.Test.YtggejpccjmolhaaGreatDoorG33
import Derived.Test.YtggejpccjmolhaaGreatDoorG11
import Derived.Test.YtggejpccjmolhaaGreatDoorG32
namespace Go.Proofs.YtggejpccjmolhaaGreatDoor
open Go.RowKit Plain
set_option linter.unusedVariables false
set_option linter.unusedSimpArgs false
set_option maxRecDepth 100000

def rf1 (x : Im) (i : Nat) : Int := if rcB (x.parts.getD i dPn) then 0 else 100
def rf3 (x : Im) (i : Nat) : Int := rptE (x.parts.getD i dPn)
def rf4 (x : Im) (i : Nat) : Int := if rqB x.parts.length (x.ports.getD i ⟨0, 0, false, 0, 0, 0⟩) then 0 else 107
def rf5 (x : Im) (i : Nat) : Int := if chD x.ports x.chans i (x.chans.getD i dCh) then 0 else 108
/-- what each of the document's steps finds -/
def rcS (x : Im) : Nat → Option (Int × Int)
  | 0 => if x.parts.length ≤ 32 ∧ x.ports.length ≤ 64 ∧ x.chans.length ≤ 64 then none else some (100, 0)
  | 1 => eachF (rf1 x) 1 x.parts.length
  | 2 => timF (svs x.parts) x.parts.length
  | 3 => eachF (rf3 x) 1 x.parts.length
  | 4 => eachF (rf4 x) 1 x.ports.length
  | _ => eachF (rf5 x) 1 x.chans.length
def rckF (x : Im) : Option (Int × Int) := firstF (rcS x) 6
section
variable {P : Program} {ops : Array Oper} {Q : Exit → Act → World → Prop} {rest : List Oper} {op : Oper} {a : Act} {w : World}
theorem l_callC (k : Nat) {f : FuncId} {args : Array Value} {R : Ending → World → Prop} (hd : op.dst = some k) (hw : Region.wanted op (yielded ops a.tmps) = true) (hr : (execOp a.eval op).run P w = .ok (.enter f args) w) (hc : Calls P f args w R)
    (h : ∀ e w', R e w' → ∃ v, e = .returned v ∧ wpList P ops Q rest (a.put (some k) v) w') : wpList P ops Q (op :: rest) a w :=
  BigFrame.wpList_want hw fun K hK => by
    unfold Oper.wp
    rw [hr]
    refine hc.mono ?_
    intro e w' he
    obtain ⟨v, rfl, h2⟩ := h e w' he
    exact hK _ _ (by rw [hd]; exact h2)
end
section
variable {o : Oper} {a : Act} {w : World}
theorem er_fImC (x : Operand) (ho : o.op = .fieldAddr 26 x 0) (g : Nat) (hx : a.eval x = .pointer (some ⟨g, 0, none⟩)) : (execOp a.eval o).run Tryz.prog w = .ok (.value (.pointer (some ⟨g, 0, none⟩))) w := by
  simp only [execOp, ho, hx]; simp [go_sem, add_none]
theorem er_ldSPC (x : Operand) (ho : o.op = .load 22 x) (g off : Nat) (v : Value) (hx : a.eval x = .pointer (some ⟨g, off, none⟩)) (hr : w.cell? ⟨g, off, none⟩ = some v) : (execOp a.eval o).run Tryz.prog w = .ok (.value v) w := by
  simp only [execOp, ho, hx]; simp [go_sem, hr]
theorem er_c1C (f : Nat) (t : TypeId) (x : Operand) (ho : o.op = .call { callee := .value (.func f), args := #[x], argTypes := #[t] }) (u : Value) (hx : a.eval x = u) (eg : ∀ (ev : Operand → Value) w, ev x = u → (execOp ev o).run Tryz.prog w = .ok (.enter f #[u]) w) : (execOp a.eval o).run Tryz.prog w = .ok (.enter f #[u]) w := eg _ _ hx
theorem er_cCnt (x : Operand) (ho : o.op = .call { callee := .value (.func 15), args := #[x], argTypes := #[59] }) (u : Value) (hx : a.eval x = u) : (execOp a.eval o).run Tryz.prog w = .ok (.enter 15 #[u]) w := by
  subst hx; simp [execOp, ho, go_sem, Act.eval]
theorem er_cPrt (x : Operand) (ho : o.op = .call { callee := .value (.func 19), args := #[x], argTypes := #[59] }) (u : Value) (hx : a.eval x = u) : (execOp a.eval o).run Tryz.prog w = .ok (.enter 19 #[u]) w := by
  subst hx; simp [execOp, ho, go_sem, Act.eval]
end
theorem sizeEPoC : (Tryz.prog.info? 41).map (·.size) = some 6 := by kernel_rfl
section
variable {o : Oper} {a : Act} {w : World} {C : World → Prop} {K : Act → Prop}
theorem er_idxPoC (x y : Operand) (ho : o.op = .indexAddr 23 x y) (b off n c d : Nat) (hd : d < n) (hn : n ≤ 9223372036854775807) (hx : a.eval x = .slice (some ⟨b, off, none⟩) n c) (hy : a.eval y = .int .i64 d) : (execOp a.eval o).run Tryz.prog w = .ok (.value (.pointer (some ⟨b, off + d * 6, none⟩))) w := by
  simp only [execOp, ho, hx, hy]
  simp [go_sem, add_none]
  omega
theorem quiet_portC (x0 x1 : Operand) (ho : o.op = .call { callee := .value (.func 20), args := #[x0, x1], argTypes := #[26, 41] }) (v0 v1 v : Value) (h0 : a.eval x0 = v0) (h1 : a.eval x1 = v1)
    (hc : ∀ w, C w → Calls Tryz.prog 20 #[v0, v1] w fun e w'' => e = .returned v ∧ C w'') (hk : K (a.put o.dst v)) : o.quiet Tryz.prog a C K :=
  quiet_callP (f := 20) (args := #[v0, v1]) (fun w => by subst h0 h1; simp [execOp, ho, go_sem, Act.eval]) hc hk
end
theorem tog_of {xs : List Srv} {n : Nat} {p : Int × Int} (h : togF xs n = some p) : (p.1 = 102 ∨ p.1 = 103) ∧ p.2 = 0 := by
  unfold togF at h
  split at h
  · split at h
    · cases h
    · cases h; exact ⟨.inr rfl, rfl⟩
  · cases h; exact ⟨.inl rfl, rfl⟩
/-- what Check's walk stands on -/
structure Ckx (w : World) (F : Nat → Prop) (a0 : Option Addr) (n0 c0 : Nat) (a1 : Option Addr) (n1 c1 : Nat) (a2 : Option Addr) (n2 c2 : Nat) (x : Im) (wA : World) (b : Nat) : Prop where
  im : Img w F a0 n0 c0 a1 n1 c1 a2 n2 c2 x
  kp : Kept No w wA
  c : ∀ W, Kept No wA W → W.cell? ⟨b, 0, none⟩ = some (.slice a0 n0 c0) ∧ W.cell? ⟨b, 1, none⟩ = some (.slice a1 n1 c1) ∧ W.cell? ⟨b, 2, none⟩ = some (.slice a2 n2 c2)
theorem Ckx.ld {w : World} {F : Nat → Prop} {a0 : Option Addr} {n0 c0 : Nat} {a1 : Option Addr} {n1 c1 : Nat} {a2 : Option Addr} {n2 c2 : Nat} {x : Im} {wA : World} {b : Nat} (h : Ckx w F a0 n0 c0 a1 n1 c1 a2 n2 c2 x wA b) (W : World) (k : Kept No wA W) :
    (Instr.loadAt 26 (.pointer (some ⟨b, 0, none⟩))).run Tryz.prog W = .ok (.agg #[.slice a0 n0 c0, .slice a1 n1 c1, .slice a2 n2 c2]) W :=
  run_loadAt_mid W b 0 _ [.slice a0 n0 c0, .slice a1 n1 c1, .slice a2 n2 c2] _ (fun j v hv => by
      obtain ⟨x0, x1, x2⟩ := h.c W k
      match j, hv with
      | 0, hv => cases hv; exact x0
      | 1, hv => cases hv; exact x1
      | 2, hv => cases hv; exact x2
      | j + 3, hv => simp at hv) Tryz.underlying26 rfl sizeEIm

set_option maxHeartbeats 32000000 in
theorem rCheck_any (F : Nat → Prop) (a0 : Option Addr) (n0 c0 : Nat) (a1 : Option Addr) (n1 c1 : Nat) (a2 : Option Addr) (n2 c2 : Nat) (x : Im) (w : World) (h : Img w F a0 n0 c0 a1 n1 c1 a2 n2 c2 x) :
    Calls Tryz.prog 6 #[.agg #[.slice a0 n0 c0, .slice a1 n1 c1, .slice a2 n2 c2]] w fun e w' => e = .returned (.tuple #[.int .i64 (fe (rckF x)), .int .i64 (fn (rckF x))]) ∧ Kept No w w' := by
  have l0 : x.parts.length = n0 := h.ps.len
  have l1 : x.ports.length = n1 := h.qs.len
  have l2 : x.chans.length = n2 := h.cs.len
  have m0 : n0 ≤ 9223372036854775807 := Nat.le_trans h.ps.cap h.ps.max
  have m1 : n1 ≤ 9223372036854775807 := Nat.le_trans h.qs.cap h.qs.max
  have m2 : n2 ≤ 9223372036854775807 := Nat.le_trans h.cs.cap h.cs.max
  have HX : Hid (Ckx w F a0 n0 c0 a1 n1 c1 a2 n2 c2 x (w.alloc (.cells #[.slice a0 n0 c0, .slice a1 n1 c1, .slice a2 n2 c2] 26)) w.heap.size) := ⟨h, (Kept.refl No w).alloc _, fun W k => ⟨k.cell (by simp) (fun h => h), k.cell (by simp) (fun h => h), k.cell (by simp) (fun h => h)⟩⟩
  have HL := hid (And.intro l0 (And.intro l1 l2))
  obtain ⟨S, hS⟩ : ∃ S, S = rcS x := ⟨_, rfl⟩
  obtain ⟨R, hR⟩ : ∃ R, R = rckF x := ⟨_, rfl⟩
  have HR : Hid (R = firstF S 6) := by rw [hS]; exact hR
  have HS := hid hS
  rw [← hR]
  obtain ⟨d0, d1, d2⟩ := HX.out.c _ (Kept.refl No _)
  clear h l0 l1 l2 hR hS
  have s0 : S 0 = if n0 ≤ 32 ∧ n1 ≤ 64 ∧ n2 ≤ 64 then none else some (100, 0) := by rw [HS.out]; show (if x.parts.length ≤ 32 ∧ x.ports.length ≤ 64 ∧ x.chans.length ≤ 64 then none else some (100, 0)) = _; rw [HL.out.1, HL.out.2.1, HL.out.2.2]
  have HS0 := hid s0
  clear s0
  go_enter Tryz.func6, Tryz.ntmps6
  go_upto_region 1 with fail
  generalize w.alloc (.cells #[.slice a0 n0 c0, .slice a1 n1 c1, .slice a2 n2 c2] 26) = wA at *
  generalize w.heap.size = bA at *
  by_cases q0 : n0 ≤ 32
  case neg =>
    have HF : Hid (R = some (100, 0)) := HR.out.trans (firstF_hit rfl (HS0.out.trans (if_neg (fun h => q0 h.1))) 6 (by omega))
    have q0' : (32 : Int) < (n0 : Int) := by omega
    have g0 : decide ((32 : Int) < (n0 : Int)) = true := by simp [q0']
    go_wp2
    go_ret2
    exact ⟨by rw [HF.out]; rfl, HX.out.kp⟩
  have q0' : ¬ (32 : Int) < (n0 : Int) := by omega
  have g0 : decide ((32 : Int) < (n0 : Int)) = false := by simp only [decide_eq_false_iff_not]; omega
  by_cases q1 : n1 ≤ 64
  case neg =>
    have HF : Hid (R = some (100, 0)) := HR.out.trans (firstF_hit rfl (HS0.out.trans (if_neg (fun h => q1 h.2.1))) 6 (by omega))
    have q1' : (64 : Int) < (n1 : Int) := by omega
    have g1 : decide ((64 : Int) < (n1 : Int)) = true := by simp [q1']
    go_wp2
    go_ret2
    exact ⟨by rw [HF.out]; rfl, HX.out.kp⟩
  have q1' : ¬ (64 : Int) < (n1 : Int) := by omega
  have g1 : decide ((64 : Int) < (n1 : Int)) = false := by simp only [decide_eq_false_iff_not]; omega
  by_cases q2 : n2 ≤ 64
  case neg =>
    have HF : Hid (R = some (100, 0)) := HR.out.trans (firstF_hit rfl (HS0.out.trans (if_neg (fun h => q2 h.2.2))) 6 (by omega))
    have q2' : (64 : Int) < (n2 : Int) := by omega
    have g2 : decide ((64 : Int) < (n2 : Int)) = true := by simp [q2']
    go_wp2
    go_ret2
    exact ⟨by rw [HF.out]; rfl, HX.out.kp⟩
  have q2' : ¬ (64 : Int) < (n2 : Int) := by omega
  have g2 : decide ((64 : Int) < (n2 : Int)) = false := by simp only [decide_eq_false_iff_not]; omega
  have HF1 : Hid (firstF S 1 = none) := firstF_miss rfl (HS0.out.trans (if_pos ⟨q0, q1, q2⟩))
  clear HS0
  have HS1 : Hid (S 1 = eachF (rf1 x) 1 n0) := by rw [← HL.out.1, HS.out]; rfl
  have HS2 : Hid (S 2 = timF (svs x.parts) n0) := by rw [← HL.out.1, HS.out]; rfl
  have HS3 : Hid (S 3 = eachF (rf3 x) 1 n0) := by rw [← HL.out.1, HS.out]; rfl
  have HS4 : Hid (S 4 = eachF (rf4 x) 1 n1) := by rw [← HL.out.2.1, HS.out]; rfl
  have HS5 : Hid (S 5 = eachF (rf5 x) 1 n2) := by rw [← HL.out.2.2, HS.out]; rfl
  go_wp2
  clear q0' g0 q1' g1 q2' g2
  go_loopw [4] (fun i wr => ∃ k : Nat, k ≤ n0 ∧ i = .int .i64 k ∧ Kept No wA wr ∧ eachF (rf1 x) 1 k = none) (fun i _ => n0 - (intOf i).toNat)
  case atStart => exact ⟨0, by omega, rfl, Kept.refl _ _, rfl⟩
  case round =>
    obtain ⟨k, hk, rfl, K, hno⟩ := hrel
    have HN := hid hno
    have HK := hid K
    clear d0 d1 d2
    obtain ⟨d0, d1, d2⟩ := HX.out.c _ K
    clear K hno
    by_cases hlt : k < n0
    · have hx : x.parts[k]? = some (x.parts.getD k dPn) := by rw [List.getD, List.getElem?_eq_getElem (by rw [HL.out.1]; exact hlt)]; rfl
      have hKw : Kept No w wr := HX.out.kp.trans HK.out (fun _ h => h.elim)
      obtain ⟨b, oo, cs, rfl, _, hcl, hr, hE⟩ := (lsPn_keep HX.out.im.ps hKw).at' k _ hx
      have hld : (Instr.loadAt 59 (.pointer (some ⟨b, oo + k * 21, none⟩))).run Tryz.prog wr = .ok (.agg cs.toArray) wr := run_loadAt_mid wr b (oo + k * 21) _ cs _ hr Tryz.underlying59 rfl (by rw [hcl]; exact sizeEPn)
      have HLD := hid hld
      have HE := hid hE
      have hlz : (k : Int) < (n0 : Int) := by omega
      clear hld hr hE hx hKw
      go_upto_region 6 with fail
      refine wp_region_lit ?_
      try simp only [Act.put, List.setIfInBounds_toArray, List.set_cons_zero, List.set_cons_succ]
      refine l_take 33 rfl rfl (er_fImC _ rfl bA rfl) ?_
      simp only [Act.put, List.setIfInBounds_toArray, List.set_cons_zero, List.set_cons_succ]
      refine l_take 34 rfl rfl (er_ldSPC _ rfl bA 0 _ rfl d0) ?_
      simp only [Act.put, List.setIfInBounds_toArray, List.set_cons_zero, List.set_cons_succ]
      refine l_take 35 rfl rfl (er_mv _ rfl (.int .i64 k) rfl) ?_
      simp only [Act.put, List.setIfInBounds_toArray, List.set_cons_zero, List.set_cons_succ]
      refine l_take 36 rfl rfl (er_idxPn _ _ rfl b oo n0 c0 k hlt (by omega) rfl rfl) ?_
      simp only [Act.put, List.setIfInBounds_toArray, List.set_cons_zero, List.set_cons_succ]
      refine l_take 37 rfl rfl (er_ld _ _ rfl _ _ rfl HLD.out) ?_
      simp only [Act.put, List.setIfInBounds_toArray, List.set_cons_zero, List.set_cons_succ]
      refine l_callC (f := 15) (args := #[.agg cs.toArray]) 38 rfl rfl (er_cCnt _ rfl (.agg cs.toArray) rfl) (rcounts_any HE.out) ?_
      rintro e w5 ⟨rfl, k5⟩
      refine ⟨_, rfl, ?_⟩
      simp only [Act.put, List.setIfInBounds_toArray, List.set_cons_zero, List.set_cons_succ]
      have HK5 : Hid (Kept No wA w5) := HK.out.trans k5 (fun _ h => h.elim)
      clear k5
      cases hc : rcB (x.parts.getD k dPn)
      · have HF : Hid (R = some (100, 1 + (k : Int))) := HR.out.trans (firstF_hit HF1.out (HS1.out.trans ((eachF_hit HN.out (by unfold rf1; rw [hc]; decide) n0 hlt).trans (by unfold rf1; rw [hc]; rfl))) 6 (by omega))
        clear HS1 HS2 HS3 HS4 HS5 HN HE HLD d0 d1 d2
        go_wp2
        go_ret2
        exact ⟨by rw [HF.out]; simp only [fe, fn]; congr 3; go_num, HX.out.kp.trans HK5.out (fun _ h => h.elim)⟩
      · have HN2 : Hid (eachF (rf1 x) 1 (k + 1) = none) := eachF_miss HN.out (by unfold rf1; rw [hc]; rfl)
        clear HN HE HLD d0 d1 d2
        go_wp2
        go_roundw
        case rel => exact ⟨k + 1, by omega, by go_num, HK5.out, HN2.out⟩
        case measure => simp [intOf]; omega
    · obtain rfl : n0 = k := by omega
      have HF2 : Hid (firstF S 2 = none) := firstF_miss HF1.out (HS1.out.trans HN.out)
      have HOK : Hid (∀ i, i < n0 → ((svs x.parts).getD i ⟨0, 0, 0, 0⟩).ok) := fun i hi => svs_ok HX.out.im.ps i hi
      have HO1 : Hid (∀ (v : Value) (w' : World) (B : Nat), w'.ownsRow B 50 4 v n0 (fl (svs x.parts)) → ∃ a c, v = .slice a n0 c ∧ Calls Tryz.prog 16 #[.slice a n0 c] w' fun e w3 => e = .returned (.tuple #[.int .i64 (fe (findF (svs x.parts) n0)), .int .i64 (fn (findF (svs x.parts) n0))]) ∧ Kept No w' w3) := by
        intro v w' B ho
        obtain ⟨a, c, e, hs⟩ := own_sv ho (by rw [svs_len, HL.out.1]) HOK.out
        exact ⟨a, c, e, rservers_any _ a n0 c (svs x.parts) w' hs⟩
      have HO2 : Hid (∀ (v : Value) (w' : World) (B : Nat), w'.ownsRow B 50 4 v n0 (fl (svs x.parts)) → ∃ a c, v = .slice a n0 c ∧ Calls Tryz.prog 18 #[.slice a n0 c] w' fun e w3 => e = .returned (.tuple #[.int .i64 (hyV (svs x.parts) n0), .int .i64 (hyE (svs x.parts) n0)]) ∧ Kept No w' w3) := by
        intro v w' B ho
        obtain ⟨a, c, e, hs⟩ := own_sv ho (by rw [svs_len, HL.out.1]) HOK.out
        exact ⟨a, c, e, rHyper_any _ a n0 c (svs x.parts) w' hs⟩
      have HOF : Hid (∀ W, Kept No wA W → Calls Tryz.prog 17 #[.agg #[.slice a0 n0 c0, .slice a1 n1 c1, .slice a2 n2 c2]] W fun e w' => ∃ v, e = .returned v ∧ w'.ownsRow (W.heap.size + 1) 50 4 v n0 (fl (svs x.parts)) ∧ Kept No W w') := fun W kw => rof_any F (.slice a1 n1 c1) (.slice a2 n2 c2) a0 n0 c0 x.parts W (lsPn_keep HX.out.im.ps (HX.out.kp.trans kw (fun _ h => h.elim))) (by omega)
      have HE0 : Hid (∀ p, findF (svs x.parts) n0 = some p → timF (svs x.parts) n0 = some p ∧ (p.1 = 100 ∨ p.1 = 101)) := fun p hp => ⟨by unfold timF; rw [hp], fe_of hp⟩
      have HE1 : Hid (∀ p, findF (svs x.parts) n0 = none → timF (svs x.parts) n0 = some p → (p.1 = 102 ∨ p.1 = 103) ∧ p.2 = 0) := fun p hf hp => by
        have : togF (svs x.parts) n0 = some p := by unfold timF at hp; rw [hf] at hp; exact hp
        exact tog_of this
      have HYE : Hid (hyE (svs x.parts) n0 = fe (timF (svs x.parts) n0)) := by show _ = _; unfold hyE; cases timF (svs x.parts) n0 <;> rfl
      clear HN hlt
      generalize fl (svs x.parts) = L0 at *
      generalize hyV (svs x.parts) n0 = yv at *
      generalize hyE (svs x.parts) n0 = ye at *
      cases hf : findF (svs x.parts) n0 with
      | some p =>
        obtain ⟨ht, hp⟩ := HE0.out p hf
        have HF : Hid (R = some p) := HR.out.trans (firstF_hit HF2.out (HS2.out.trans ht) 6 (by omega))
        rw [hf] at HO1
        obtain ⟨px, py⟩ := p
        simp only [fe, fn] at HO1 hp
        have hp0 : ¬ px = 0 := by omega
        have hp1 : (px == 0) = false := by simp [hp0]
        clear HE0 HE1 HYE HO2 HS1 HS2 HS3 HS4 HS5 ht hp
        go_wp2_with (first
          | (go_at_call 17; refine (HOF.out _ (by first | exact HK2.out | exact HK.out)).mono ?_; rintro e w1 ⟨v, rfl, ho, k1⟩; first | (have HK3 : Hid (Kept No wA w1) := HK2.out.trans k1 (fun _ h => h.elim); obtain ⟨a, c, rfl, hsv⟩ := HO2.out v w1 _ ho; clear ho k1) | (have HK1 : Hid (Kept No wA w1) := HK.out.trans k1 (fun _ h => h.elim); obtain ⟨a, c, rfl, hsv⟩ := HO1.out v w1 _ ho; clear ho k1))
          | (go_at_call 16; refine hsv.mono ?_; rintro e w2 ⟨rfl, k2⟩; have HK2 : Hid (Kept No wA w2) := HK1.out.trans k2 (fun _ h => h.elim); clear k2; obtain ⟨e0, e1, e2⟩ := HX.out.c w2 HK2.out))
        go_ret2
        exact ⟨by rw [HF.out]; rfl, HX.out.kp.trans HK2.out (fun _ h => h.elim)⟩
      | none =>
        rw [hf] at HO1
        simp only [fe, fn] at HO1
        cases ht : timF (svs x.parts) n0 with
        | some p =>
          obtain ⟨hp, hq⟩ := HE1.out p hf ht
          have HF : Hid (R = some p) := HR.out.trans (firstF_hit HF2.out (HS2.out.trans ht) 6 (by omega))
          rw [ht] at HYE
          obtain ⟨px, py⟩ := p
          have hye : ye = px := HYE.out
          subst hye
          simp only at hp hq
          subst hq
          have hp0 : ¬ ye = 0 := by omega
          have hp1 : (ye == 0) = false := by simp [hp0]
          clear HE0 HE1 HYE HS1 HS2 HS3 HS4 HS5 ht hp
          go_wp2_with (first
            | (go_at_call 17; refine (HOF.out _ (by first | exact HK2.out | exact HK.out)).mono ?_; rintro e w1 ⟨v, rfl, ho, k1⟩; first | (have HK3 : Hid (Kept No wA w1) := HK2.out.trans k1 (fun _ h => h.elim); obtain ⟨a, c, rfl, hsv⟩ := HO2.out v w1 _ ho; clear ho k1) | (have HK1 : Hid (Kept No wA w1) := HK.out.trans k1 (fun _ h => h.elim); obtain ⟨a, c, rfl, hsv⟩ := HO1.out v w1 _ ho; clear ho k1))
            | (go_at_call 16; refine hsv.mono ?_; rintro e w2 ⟨rfl, k2⟩; have HK2 : Hid (Kept No wA w2) := HK1.out.trans k2 (fun _ h => h.elim); clear k2; obtain ⟨e0, e1, e2⟩ := HX.out.c w2 HK2.out)
            | (go_at_call 18; refine hsv.mono ?_; rintro e w2 ⟨rfl, k2⟩; have HK4 : Hid (Kept No wA w2) := HK3.out.trans k2 (fun _ h => h.elim); clear k2))
          go_ret2
          exact ⟨by rw [HF.out]; rfl, HX.out.kp.trans HK4.out (fun _ h => h.elim)⟩
        | none =>
          have HF3 : Hid (firstF S 3 = none) := firstF_miss HF2.out (HS2.out.trans ht)
          rw [ht] at HYE
          have hye : ye = 0 := HYE.out
          subst hye
          clear HE0 HE1 HYE HS1 HS2 ht HF1 HF2
          go_upto_region 14 with (first
            | (go_at_call 17; refine (HOF.out _ (by first | exact HK2.out | exact HK.out)).mono ?_; rintro e w1 ⟨v, rfl, ho, k1⟩; first | (have HK3 : Hid (Kept No wA w1) := HK2.out.trans k1 (fun _ h => h.elim); obtain ⟨a, c, rfl, hsv⟩ := HO2.out v w1 _ ho; clear ho k1) | (have HK1 : Hid (Kept No wA w1) := HK.out.trans k1 (fun _ h => h.elim); obtain ⟨a, c, rfl, hsv⟩ := HO1.out v w1 _ ho; clear ho k1))
            | (go_at_call 16; refine hsv.mono ?_; rintro e w2 ⟨rfl, k2⟩; have HK2 : Hid (Kept No wA w2) := HK1.out.trans k2 (fun _ h => h.elim); clear k2; obtain ⟨e0, e1, e2⟩ := HX.out.c w2 HK2.out)
            | (go_at_call 18; refine hsv.mono ?_; rintro e w2 ⟨rfl, k2⟩; have HK4 : Hid (Kept No wA w2) := HK3.out.trans k2 (fun _ h => h.elim); clear k2))
          clear HO1 HO2 HOF HOK HK HK1 HK2 HK3 d0 d1 d2 e0 e1 e2 hf
          go_wp2
          go_loopw [5, 7] (fun c i wr => ∃ k : Nat, k ≤ n0 ∧ c = .int .i64 0 ∧ i = .int .i64 k ∧ Kept No wA wr ∧ eachF (rf3 x) 1 k = none) (fun _ i _ => n0 - (intOf i).toNat)
          case atStart => exact ⟨0, by omega, rfl, rfl, HK4.out, rfl⟩
          case round =>
            clear HK4
            obtain ⟨k, hk, rfl, rfl, K, hno⟩ := hrel
            have HN := hid hno
            have HK := hid K
            obtain ⟨d0, d1, d2⟩ := HX.out.c _ K
            clear K hno
            by_cases hlt : k < n0
            · have hx : x.parts[k]? = some (x.parts.getD k dPn) := by rw [List.getD, List.getElem?_eq_getElem (by rw [HL.out.1]; exact hlt)]; rfl
              have hKw : Kept No w wr := HX.out.kp.trans HK.out (fun _ h => h.elim)
              obtain ⟨b, oo, cs, rfl, _, hcl, hr, hE⟩ := (lsPn_keep HX.out.im.ps hKw).at' k _ hx
              have hld : (Instr.loadAt 59 (.pointer (some ⟨b, oo + k * 21, none⟩))).run Tryz.prog wr = .ok (.agg cs.toArray) wr := run_loadAt_mid wr b (oo + k * 21) _ cs _ hr Tryz.underlying59 rfl (by rw [hcl]; exact sizeEPn)
              have HLD := hid hld
              have HCP := hid (rpart_any hE hcl)
              have hlz : (k : Int) < (n0 : Int) := by omega
              obtain ⟨z, hz⟩ : ∃ z, z = rptE (x.parts.getD k dPn) := ⟨_, rfl⟩
              have HZ : Hid (rf3 x k = z) := by show _ = _; rw [hz]; rfl
              rw [← hz] at HCP
              clear hld hr hE hx hKw hz
              go_upto_region 17 with fail
              refine wp_region_lit ?_
              try simp only [Act.put, List.setIfInBounds_toArray, List.set_cons_zero, List.set_cons_succ]
              refine l_take 68 rfl rfl (er_fImC _ rfl bA rfl) ?_
              simp only [Act.put, List.setIfInBounds_toArray, List.set_cons_zero, List.set_cons_succ]
              refine l_take 69 rfl rfl (er_ldSPC _ rfl bA 0 _ rfl d0) ?_
              simp only [Act.put, List.setIfInBounds_toArray, List.set_cons_zero, List.set_cons_succ]
              refine l_take 70 rfl rfl (er_mv _ rfl (.int .i64 k) rfl) ?_
              simp only [Act.put, List.setIfInBounds_toArray, List.set_cons_zero, List.set_cons_succ]
              refine l_take 71 rfl rfl (er_idxPn _ _ rfl b oo n0 c0 k hlt (by omega) rfl rfl) ?_
              simp only [Act.put, List.setIfInBounds_toArray, List.set_cons_zero, List.set_cons_succ]
              refine l_take 72 rfl rfl (er_ld _ _ rfl _ _ rfl HLD.out) ?_
              simp only [Act.put, List.setIfInBounds_toArray, List.set_cons_zero, List.set_cons_succ]
              refine l_callC (f := 19) (args := #[.agg cs.toArray]) 73 rfl rfl (er_cPrt _ rfl (.agg cs.toArray) rfl) HCP.out ?_
              rintro e w5 ⟨rfl, k5⟩
              refine ⟨_, rfl, ?_⟩
              simp only [Act.put, List.setIfInBounds_toArray, List.set_cons_zero, List.set_cons_succ]
              have HK5 : Hid (Kept No wA w5) := HK.out.trans k5 (fun _ h => h.elim)
              clear k5
              by_cases hc : z = 0
              · subst hc
                have HN2 : Hid (eachF (rf3 x) 1 (k + 1) = none) := eachF_miss HN.out HZ.out
                clear HN HCP HLD d0 d1 d2
                go_wp2
                go_roundw
                case rel => exact ⟨k + 1, by omega, rfl, by go_num, HK5.out, HN2.out⟩
                case measure => simp [intOf]; omega
              · have HF : Hid (R = some (z, 1 + (k : Int))) := HR.out.trans (firstF_hit HF3.out (HS3.out.trans ((eachF_hit HN.out (by rw [HZ.out]; exact hc) n0 hlt).trans (by rw [HZ.out]))) 6 (by omega))
                have hc2 : (z == 0) = false := by simp [hc]
                clear HS3 HS4 HS5 HN HCP HLD d0 d1 d2
                go_wp2
                go_ret2
                exact ⟨by rw [HF.out]; simp only [fe, fn]; congr 3; go_num, HX.out.kp.trans HK5.out (fun _ h => h.elim)⟩
            · obtain rfl : n0 = k := by omega
              have HF4 : Hid (firstF S 4 = none) := firstF_miss HF3.out (HS3.out.trans HN.out)
              clear HN hlt HF3 HS3
              go_wp2
              clear d0 d1 d2
              go_loopw [8] (fun i wr => ∃ k : Nat, k ≤ n1 ∧ i = .int .i64 k ∧ Kept No wA wr ∧ eachF (rf4 x) 1 k = none) (fun i _ => n1 - (intOf i).toNat)
              case atStart => exact ⟨0, by omega, rfl, HK.out, rfl⟩
              case round =>
                clear HK
                obtain ⟨k, hk, rfl, K, hno⟩ := hrel
                have HN := hid hno
                have HK := hid K
                obtain ⟨d0, d1, d2⟩ := HX.out.c _ K
                clear K hno
                by_cases hlt : k < n1
                · have hx : x.ports[k]? = some (x.ports.getD k ⟨0, 0, false, 0, 0, 0⟩) := by rw [List.getD, List.getElem?_eq_getElem (by rw [HL.out.2.1]; exact hlt)]; rfl
                  obtain ⟨b, oo, cs, rfl, _, hcl, hr, hE⟩ := HX.out.im.qs.at' k _ hx
                  have HZ : Hid (rf4 x k = if rqB n0 (x.ports.getD k ⟨0, 0, false, 0, 0, 0⟩) then 0 else 107) := by show _ = _; unfold rf4; rw [HL.out.1]
                  generalize x.ports.getD k ⟨0, 0, false, 0, 0, 0⟩ = z at *
                  have hcs : cs = [.int .i64 z.pt, .int .i64 z.kd, .bool z.out, .int .i64 z.sz, .int .i64 z.dp, .int .i64 z.rf] := hE.1
                  subst hcs
                  have HLD : Hid (∀ W, Kept No wA W → (Instr.loadAt 41 (.pointer (some ⟨b, oo + k * 6, none⟩))).run Tryz.prog W = .ok (.agg #[.int .i64 z.pt, .int .i64 z.kd, .bool z.out, .int .i64 z.sz, .int .i64 z.dp, .int .i64 z.rf]) W) := fun W kw => run_loadAt_mid W b (oo + k * 6) _ _ _ (rangeAt_kept hr (HX.out.kp.trans kw (fun _ h => h.elim)) (fun h => h)) Tryz.underlying41 rfl sizeEPoC
                  have hlz : (k : Int) < (n1 : Int) := by omega
                  clear hr hE hx hcl
                  go_upto_region 23 with fail
                  refine wp_region_keptA wr (by kernel_rfl) (by kernel_rfl) (Kept.refl No wr) ?_
                  refine BigFrame.wpQuiet_want rfl (fun KQ hKQ => ?_)
                  refine quiet_valP (fun w5 hw5 => er_ld _ _ rfl _ _ rfl (HX.out.ld w5 (HK.out.trans hw5 (fun _ h => h.elim)))) ?_
                  refine hKQ _ ?_
                  clear hKQ KQ
                  simp only [Act.put, List.setIfInBounds_toArray, List.set_cons_zero, List.set_cons_succ]
                  refine BigFrame.wpQuiet_want rfl (fun KQ hKQ => ?_)
                  refine quiet_valP (fun w5 hw5 => er_fIm1 _ rfl bA 0 rfl) ?_
                  refine hKQ _ ?_
                  clear hKQ KQ
                  simp only [Act.put, List.setIfInBounds_toArray, List.set_cons_zero, List.set_cons_succ]
                  refine BigFrame.wpQuiet_want rfl (fun KQ hKQ => ?_)
                  refine quiet_valP (fun w5 hw5 => er_ldPos _ rfl bA (0 + 1) (.slice (some ⟨b, oo, none⟩) n1 c1) rfl (by rw [Nat.zero_add]; exact (HX.out.c w5 (HK.out.trans hw5 (fun _ h => h.elim))).2.1)) ?_
                  refine hKQ _ ?_
                  clear hKQ KQ
                  simp only [Act.put, List.setIfInBounds_toArray, List.set_cons_zero, List.set_cons_succ]
                  refine BigFrame.wpQuiet_want rfl (fun KQ hKQ => ?_)
                  refine quiet_valP (fun w5 hw5 => er_mv _ rfl (.int .i64 k) rfl) ?_
                  refine hKQ _ ?_
                  clear hKQ KQ
                  simp only [Act.put, List.setIfInBounds_toArray, List.set_cons_zero, List.set_cons_succ]
                  refine BigFrame.wpQuiet_want rfl (fun KQ hKQ => ?_)
                  refine quiet_valP (fun w5 hw5 => er_idxPoC _ _ rfl b oo n1 c1 k hlt m1 rfl rfl) ?_
                  refine hKQ _ ?_
                  clear hKQ KQ
                  simp only [Act.put, List.setIfInBounds_toArray, List.set_cons_zero, List.set_cons_succ]
                  refine BigFrame.wpQuiet_want rfl (fun KQ hKQ => ?_)
                  refine quiet_valP (fun w5 hw5 => er_ld _ _ rfl _ _ rfl (HLD.out w5 (HK.out.trans hw5 (fun _ h => h.elim)))) ?_
                  refine hKQ _ ?_
                  clear hKQ KQ
                  simp only [Act.put, List.setIfInBounds_toArray, List.set_cons_zero, List.set_cons_succ]
                  refine BigFrame.wpQuiet_want rfl (fun KQ hKQ => ?_)
                  refine quiet_portC _ _ rfl (.agg #[.slice a0 n0 c0, .slice (some ⟨b, oo, none⟩) n1 c1, .slice a2 n2 c2]) (.agg #[.int .i64 z.pt, .int .i64 z.kd, .bool z.out, .int .i64 z.sz, .int .i64 z.dp, .int .i64 z.rf]) (.bool (rqB n0 z)) rfl rfl (fun w5 hw5 => (rport_any a0 n0 c0 _ _ m0 z w5).mono fun e w6 ⟨h1, h2⟩ => ⟨h1, hw5.trans h2 (fun _ h => h.elim)⟩) ?_
                  refine hKQ _ ?_
                  clear hKQ KQ
                  simp only [Act.put, List.setIfInBounds_toArray, List.set_cons_zero, List.set_cons_succ]
                  refine BigFrame.wpQuiet_want rfl (fun KQ hKQ => ?_)
                  refine quiet_valP (fun w5 hw5 => er_notx _ _ rfl (rqB n0 z) rfl) ?_
                  refine hKQ _ ?_
                  clear hKQ KQ
                  simp only [Act.put, List.setIfInBounds_toArray, List.set_cons_zero, List.set_cons_succ]
                  refine wpQuiet_nil ?_
                  intro w9 k9
                  have HK9 : Hid (Kept No wA w9) := HK.out.trans k9 (fun _ h => h.elim)
                  clear k9 d0 d1 d2
                  cases hc : rqB n0 z
                  · have hz : rf4 x k = 107 := by rw [HZ.out, hc]; rfl
                    have HF : Hid (R = some (107, 1 + (k : Int))) := HR.out.trans (firstF_hit HF4.out (HS4.out.trans ((eachF_hit HN.out (by rw [hz]; decide) n1 hlt).trans (by rw [hz]))) 6 (by omega))
                    clear HS4 HS5 HN HLD hz HZ
                    go_wp2
                    go_ret2
                    exact ⟨by rw [HF.out]; simp only [fe, fn]; congr 3; go_num, HX.out.kp.trans HK9.out (fun _ h => h.elim)⟩
                  · have HN2 : Hid (eachF (rf4 x) 1 (k + 1) = none) := eachF_miss HN.out (by rw [HZ.out, hc]; rfl)
                    clear HN HLD HZ
                    go_wp2
                    go_roundw
                    case rel => exact ⟨k + 1, by omega, by go_num, HK9.out, HN2.out⟩
                    case measure => simp [intOf]; omega
                · obtain rfl : n1 = k := by omega
                  have HF5 : Hid (firstF S 5 = none) := firstF_miss HF4.out (HS4.out.trans HN.out)
                  clear HN hlt HF4 HS4
                  go_wp2
                  clear d0 d1 d2
                  go_loopw [9] (fun i wr => ∃ k : Nat, k ≤ n2 ∧ i = .int .i64 k ∧ Kept No wA wr ∧ eachF (rf5 x) 1 k = none) (fun i _ => n2 - (intOf i).toNat)
                  case atStart => exact ⟨0, by omega, rfl, HK.out, rfl⟩
                  case round =>
                    clear HK
                    obtain ⟨k, hk, rfl, K, hno⟩ := hrel
                    have HN := hid hno
                    have HK := hid K
                    obtain ⟨d0, d1, d2⟩ := HX.out.c _ K
                    clear K hno
                    by_cases hlt : k < n2
                    · have hKw : Kept No w wr := HX.out.kp.trans HK.out (fun _ h => h.elim)
                      have hch := rchan_any F (.slice a0 n0 c0) a1 n1 c1 x.ports a2 n2 c2 x.chans k wr hlt (HX.out.im.qs.kept hKw (fun _ _ h => h) (elPo_kept hKw (fun _ _ h => h))) (HX.out.im.cs.kept hKw (fun _ _ h => h) (elCh_kept hKw (fun _ _ h => h))) rfl
                      have HZ : Hid (rf5 x k = if chD x.ports x.chans k (x.chans.getD k dCh) then 0 else 108) := rfl
                      generalize chD x.ports x.chans k (x.chans.getD k dCh) = z at *
                      have hlz : (k : Int) < (n2 : Int) := by omega
                      clear hKw
                      cases z
                      · have hz : rf5 x k = 108 := HZ.out
                        have HF : Hid (R = some (108, 1 + (k : Int))) := HR.out.trans (firstF_hit HF5.out (HS5.out.trans ((eachF_hit HN.out (by rw [hz]; decide) n2 hlt).trans (by rw [hz]))) 6 (by omega))
                        clear HS5 HN hz HZ
                        go_wp2_with (go_at_call 21; refine hch.mono ?_; rintro e w5 ⟨rfl, k5⟩; have HK5 : Hid (Kept No wA w5) := HK.out.trans k5 (fun _ h => h.elim); clear k5)
                        go_ret2
                        exact ⟨by rw [HF.out]; simp only [fe, fn]; congr 3; go_num, HX.out.kp.trans HK5.out (fun _ h => h.elim)⟩
                      · have HN2 : Hid (eachF (rf5 x) 1 (k + 1) = none) := eachF_miss HN.out HZ.out
                        clear HN HZ
                        go_wp2_with (go_at_call 21; refine hch.mono ?_; rintro e w5 ⟨rfl, k5⟩; have HK5 : Hid (Kept No wA w5) := HK.out.trans k5 (fun _ h => h.elim); clear k5)
                        go_roundw
                        case rel => exact ⟨k + 1, by omega, by go_num, HK5.out, HN2.out⟩
                        case measure => simp [intOf]; omega
                    · obtain rfl : n2 = k := by omega
                      have HF : Hid (R = none) := HR.out.trans (firstF_miss HF5.out (HS5.out.trans HN.out))
                      clear HN hlt HF5 HS5
                      go_wp2
                      go_ret2
                      exact ⟨by rw [HF.out]; rfl, HX.out.kp.trans HK.out (fun _ h => h.elim)⟩

end Go.Proofs.YtggejpccjmolhaaGreatDoor
