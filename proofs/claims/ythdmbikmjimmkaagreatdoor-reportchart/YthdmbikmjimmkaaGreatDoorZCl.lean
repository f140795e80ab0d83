/-
  ReportChart: the walk.
-/
import Derived.Test.YthdmbikmjimmkaaGreatDoorZCh
namespace Go.Proofs.YthdmbikmjimmkaaGreatDoor
open Go.RowKit Go.Shelf Plain
set_option linter.unusedVariables false
set_option linter.unusedSimpArgs false
set_option maxRecDepth 100000

section
variable {o : Oper} {a : Act} {w : World}
theorem er_lenS (x : Operand) (ho : o.op = .call { callee := .builtin .len, args := #[x], argTypes := #[9] }) (bs : List UInt8) (hx : a.eval x = .string ⟨bs.toArray⟩) : (execOp a.eval o).run Tryz.prog w = .ok (.value (.int .i64 (bs.length : Int))) w := by
  generalize a.eval = ev at hx ⊢
  simp [execOp, ho, go_sem, hx]
theorem er_geI (x y : Operand) (ho : o.op = .binOp .geq 3 x y 3) (k l : Int) (b : Bool) (hx : a.eval x = .int .i64 k) (hy : a.eval y = .int .i64 l) (hb : decide (l ≤ k) = b) : (execOp a.eval o).run Tryz.prog w = .ok (.value (.bool b)) w := by
  subst hb; simp only [execOp, ho, hx, hy]; simp [go_sem]
theorem er_ixS (x y : Operand) (ho : o.op = .index 9 x y) (bs : List UInt8) (d : Nat) (b : UInt8) (hx : a.eval x = .string ⟨bs.toArray⟩) (hy : a.eval y = .int .i64 (d : Int)) (hb : bs[d]? = some b) : (execOp a.eval o).run Tryz.prog w = .ok (.value (.int .u8 (b.toNat : Int))) w := by
  have hd : d < bs.length := (List.getElem?_eq_some_iff.1 hb).1
  have hg : bs[d] = b := (List.getElem?_eq_some_iff.1 hb).2
  simp only [execOp, ho, hx, hy]
  simp [go_sem, hd]
  exact congrArg (fun z : UInt8 => (z.toNat : Int)) (show bs.toArray[d] = b by simpa using hg)
theorem er_ixSl (x y : Operand) (ho : o.op = .indexAddr 29 x y) (b n c d : Nat) (hd : d < n) (hn : n ≤ 9223372036854775807) (hx : a.eval x = .slice (some ⟨b, 0, none⟩) n c) (hy : a.eval y = .int .i64 d) : (execOp a.eval o).run Tryz.prog w = .ok (.value (.pointer (some ⟨b, d * 2, none⟩))) w := by
  simp only [execOp, ho, hx, hy]
  simp [go_sem, add_none]
  omega
theorem er_fSl1 (x : Operand) (ho : o.op = .fieldAddr 33 x 1) (g k : Nat) (hx : a.eval x = .pointer (some ⟨g, k, none⟩)) : (execOp a.eval o).run Tryz.prog w = .ok (.value (.pointer (some ⟨g, k + 1, none⟩))) w := by
  simp only [execOp, ho, hx]; simp [go_sem, add_none]
theorem er_clt (x : Operand) (ho : o.op = .call { callee := .value (.func 8), args := #[x], argTypes := #[3] }) (u : Value) (hx : a.eval x = u) : (execOp a.eval o).run Tryz.prog w = .ok (.enter 8 #[u]) w := by
  subst hx
  simp [execOp, ho, go_sem, Act.eval]
theorem er_ne8 (x y : Operand) (ho : o.op = .binOp .neq 5 x y 5) (k : Int) (hx : a.eval x = .int .u8 k) (hy : a.eval y = .int .u8 k) : (execOp a.eval o).run Tryz.prog w = .ok (.value (.bool false)) w := by
  simp only [execOp, ho, hx, hy]; simp [go_sem]
theorem er_pkF2 (c x y : Operand) (ho : o.op = .pick c x y) (v : Value) (hc : a.eval c = .bool false) (hx : a.eval y = v) : (execOp a.eval o).run Tryz.prog w = .ok (.value v) w := by
  simp only [execOp, ho, hc, hx]; simp [go_sem]
end
theorem quiet_clt {C : World → Prop} {a : Act} {o : Oper} {K : Act → Prop} (x : Operand) (ho : o.op = .call { callee := .value (.func 8), args := #[x], argTypes := #[3] }) (u r : Value) (hx : a.eval x = u)
    (hc : ∀ w, C w → Calls Tryz.prog 8 #[u] w fun e w'' => e = .returned r ∧ C w'') (hk : K (a.put o.dst r)) : o.quiet Tryz.prog a C K :=
  quiet_call' (f := 8) (args := #[u]) (fun w => er_clt x ho u hx) hc hk
theorem eachF_neQ {r : Nat → Int} {first : Int} : ∀ {n : Nat} {p : Int × Int}, eachF r first n = some p → p.1 ≠ 0
  | 0, p, h => by cases h
  | n + 1, p, h => by
    rw [eachF] at h
    cases he : eachF r first n with
    | some q => rw [he] at h; injection h with h; subst h; exact eachF_neQ he
    | none =>
      rw [he] at h
      simp only at h
      by_cases h0 : r n = 0
      · rw [if_pos h0] at h; cases h
      · rw [if_neg h0] at h; injection h with h; subst h; exact h0
theorem tim_neQ {xs : List Srv} {n : Nat} {p : Int × Int} (h : timF xs n = some p) : p.1 ≠ 0 := by
  unfold timF at h
  cases hf : findF xs n with
  | some q =>
    rw [hf] at h
    injection h with h
    subst h
    unfold findF at hf
    by_cases h32 : n ≤ 32
    · rw [if_pos h32] at hf; exact eachF_neQ hf
    · rw [if_neg h32] at hf; injection hf with hf; subst hf; decide
  | none =>
    rw [hf] at h
    unfold togF at h
    by_cases hb : lcmB (zP xs) n 1048576 = true
    · rw [if_pos hb] at h
      by_cases hr : relF (lcmV (zP xs) n 1048576) xs n ≤ 65536
      · rw [if_pos hr] at h; cases h
      · rw [if_neg hr] at h; injection h with h; subst h; decide
    · rw [if_neg hb] at h; injection h with h; subst h; decide
theorem lsB_at {L : List (Nat × Nat)} {i k : Nat} {x : Nat × Nat} (h : L[i]? = some x) (hk : k < x.1) : (lsB L)[Rule.pre L i + k]? = some (ltB x.2) := by
  have hi := (List.getElem?_eq_some_iff.1 h).1
  have e : L = L.take (i + 1) ++ L.drop (i + 1) := (List.take_append_drop (i + 1) L).symm
  have e2 : lsB L = lsB (L.take i) ++ List.replicate x.1 (ltB x.2) ++ lsB (L.drop (i + 1)) := by
    conv => lhs; rw [e]
    rw [lsB_app, lsB_take h]
  rw [e2, List.append_assoc, List.getElem?_append_right (by rw [lsB_pre]; omega), lsB_pre, Nat.add_sub_cancel_left, List.getElem?_append_left (by simp; exact hk)]
  simp [hk]

set_option maxHeartbeats 8000000 in
theorem chart_tim {F : Nat → Prop} {a : Option Addr} {n c : Nat} {xs : List Srv} (fr ln : Int) (w : World) (hg : Gl w) (h : Sv w F a n c xs) {q : Int × Int} (ht : timF xs n = some q) :
    Calls Tryz.prog 3 #[.slice a n c, .int .i64 fr, .int .i64 ln] w fun e w' => e = .returned (.bool true) ∧ Kept No w w' := by
  have hc := hyper_any F a n c xs w hg h
  have HW : Hid (∀ W, Kept No w W → Calls Tryz.prog 5 #[] W fun e w' => e = .returned (.bool true) ∧ Kept No W w') := fun W k => works_any W (hg.kept k)
  rw [show hyE xs n = q.1 by unfold hyE; rw [ht]] at hc
  have g0 := tim_neQ ht
  generalize hyV xs n = v at *
  obtain ⟨z, hz⟩ : ∃ z, z = q.1 := ⟨_, rfl⟩
  rw [← hz] at hc g0
  have g1 : (z != 0) = true := by simpa using g0
  clear h ht hg hz
  go_enter Tryz.func3, Tryz.ntmps3
  go_wp2_with (first
    | (go_at_call 4; refine hc.mono ?_; rintro e w1 ⟨rfl, hk1⟩; have HK1 : Hid (Kept No w w1) := hk1; have hwk := HW.out w1 HK1.out; clear hk1 hc)
    | (go_at_call 5; refine hwk.mono ?_; rintro e w4 ⟨rfl, hk4⟩; have HK4 : Hid (Kept No w w4) := HK1.out.trans hk4 (fun _ h => h.elim); clear hk4 hwk))
  go_ret
  exact ⟨rfl, HK4.out⟩

set_option maxHeartbeats 8000000 in
theorem chart_fr {F : Nat → Prop} {a : Option Addr} {n c : Nat} {xs : List Srv} (fr ln : Int) (w : World) (hg : Gl w) (h : Sv w F a n c xs) (ht : timF xs n = none) (hb : fr < 0) :
    Calls Tryz.prog 3 #[.slice a n c, .int .i64 fr, .int .i64 ln] w fun e w' => e = .returned (.bool true) ∧ Kept No w w' := by
  have hc := hyper_any F a n c xs w hg h
  have HW : Hid (∀ W, Kept No w W → Calls Tryz.prog 5 #[] W fun e w' => e = .returned (.bool true) ∧ Kept No W w') := fun W k => works_any W (hg.kept k)
  have hl := h.len
  subst hl
  rw [(tim_yes ht).1, (tim_yes ht).2] at hc
  generalize hyp xs = H at *
  have k0 : decide (fr < 0) = true := decide_eq_true hb
  clear h ht hg
  go_enter Tryz.func3, Tryz.ntmps3
  go_wp2_with (first
    | (go_at_call 4; refine hc.mono ?_; rintro e w1 ⟨rfl, hk1⟩; have HK1 : Hid (Kept No w w1) := hk1; have hwk := HW.out w1 HK1.out; clear hk1 hc)
    | (go_at_call 5; refine hwk.mono ?_; rintro e w4 ⟨rfl, hk4⟩; have HK4 : Hid (Kept No w w4) := HK1.out.trans hk4 (fun _ h => h.elim); clear hk4 hwk))
  go_ret
  exact ⟨rfl, HK4.out⟩

set_option maxHeartbeats 8000000 in
theorem chart_ln {F : Nat → Prop} {a : Option Addr} {n c : Nat} {xs : List Srv} (fr ln : Int) (w : World) (hg : Gl w) (h : Sv w F a n c xs) (ht : timF xs n = none) (hb0 : ¬ fr < 0) (hb : ln < 0) :
    Calls Tryz.prog 3 #[.slice a n c, .int .i64 fr, .int .i64 ln] w fun e w' => e = .returned (.bool true) ∧ Kept No w w' := by
  have hc := hyper_any F a n c xs w hg h
  have HW : Hid (∀ W, Kept No w W → Calls Tryz.prog 5 #[] W fun e w' => e = .returned (.bool true) ∧ Kept No W w') := fun W k => works_any W (hg.kept k)
  have hl := h.len
  subst hl
  rw [(tim_yes ht).1, (tim_yes ht).2] at hc
  generalize hyp xs = H at *
  have k0 : decide (fr < 0) = false := decide_eq_false hb0
  have k1 : decide (ln < 0) = true := decide_eq_true hb
  clear h ht hg
  go_enter Tryz.func3, Tryz.ntmps3
  go_wp2_with (first
    | (go_at_call 4; refine hc.mono ?_; rintro e w1 ⟨rfl, hk1⟩; have HK1 : Hid (Kept No w w1) := hk1; have hwk := HW.out w1 HK1.out; clear hk1 hc)
    | (go_at_call 5; refine hwk.mono ?_; rintro e w4 ⟨rfl, hk4⟩; have HK4 : Hid (Kept No w w4) := HK1.out.trans hk4 (fun _ h => h.elim); clear hk4 hwk))
  go_ret
  exact ⟨rfl, HK4.out⟩

set_option maxHeartbeats 8000000 in
theorem chart_lg {F : Nat → Prop} {a : Option Addr} {n c : Nat} {xs : List Srv} (fr ln : Int) (w : World) (hg : Gl w) (h : Sv w F a n c xs) (ht : timF xs n = none) (hb0 : ¬ fr < 0) (hb1 : ¬ ln < 0) (hb : 1000 < ln) :
    Calls Tryz.prog 3 #[.slice a n c, .int .i64 fr, .int .i64 ln] w fun e w' => e = .returned (.bool true) ∧ Kept No w w' := by
  have hc := hyper_any F a n c xs w hg h
  have HW : Hid (∀ W, Kept No w W → Calls Tryz.prog 5 #[] W fun e w' => e = .returned (.bool true) ∧ Kept No W w') := fun W k => works_any W (hg.kept k)
  have hl := h.len
  subst hl
  rw [(tim_yes ht).1, (tim_yes ht).2] at hc
  generalize hyp xs = H at *
  have k0 : decide (fr < 0) = false := decide_eq_false hb0
  have k1 : decide (ln < 0) = false := decide_eq_false hb1
  have k2 : decide ((1000 : Int) < ln) = true := decide_eq_true hb
  clear h ht hg
  go_enter Tryz.func3, Tryz.ntmps3
  go_wp2_with (first
    | (go_at_call 4; refine hc.mono ?_; rintro e w1 ⟨rfl, hk1⟩; have HK1 : Hid (Kept No w w1) := hk1; have hwk := HW.out w1 HK1.out; clear hk1 hc)
    | (go_at_call 5; refine hwk.mono ?_; rintro e w4 ⟨rfl, hk4⟩; have HK4 : Hid (Kept No w w4) := HK1.out.trans hk4 (fun _ h => h.elim); clear hk4 hwk))
  go_ret
  exact ⟨rfl, HK4.out⟩

set_option maxHeartbeats 8000000 in
theorem chart_fa {F : Nat → Prop} {a : Option Addr} {n c : Nat} {xs : List Srv} (fr ln : Int) (w : World) (hg : Gl w) (h : Sv w F a n c xs) (ht : timF xs n = none) (hb0 : ¬ fr < 0) (hb1 : ¬ ln < 0) (hb2 : ¬ 1000 < ln) (hb : 1099511627776 - ln < fr) :
    Calls Tryz.prog 3 #[.slice a n c, .int .i64 fr, .int .i64 ln] w fun e w' => e = .returned (.bool true) ∧ Kept No w w' := by
  have hc := hyper_any F a n c xs w hg h
  have HW : Hid (∀ W, Kept No w W → Calls Tryz.prog 5 #[] W fun e w' => e = .returned (.bool true) ∧ Kept No W w') := fun W k => works_any W (hg.kept k)
  have hl := h.len
  subst hl
  rw [(tim_yes ht).1, (tim_yes ht).2] at hc
  generalize hyp xs = H at *
  have k0 : decide (fr < 0) = false := decide_eq_false hb0
  have k1 : decide (ln < 0) = false := decide_eq_false hb1
  have k2 : decide ((1000 : Int) < ln) = false := decide_eq_false hb2
  have k3 : decide (1099511627776 - ln < fr) = true := decide_eq_true hb
  clear h ht hg
  go_enter Tryz.func3, Tryz.ntmps3
  go_wp2_with (first
    | (go_at_call 4; refine hc.mono ?_; rintro e w1 ⟨rfl, hk1⟩; have HK1 : Hid (Kept No w w1) := hk1; have hwk := HW.out w1 HK1.out; clear hk1 hc)
    | (go_at_call 5; refine hwk.mono ?_; rintro e w4 ⟨rfl, hk4⟩; have HK4 : Hid (Kept No w w4) := HK1.out.trans hk4 (fun _ h => h.elim); clear hk4 hwk))
  go_ret
  exact ⟨rfl, HK4.out⟩

set_option maxHeartbeats 32000000 in
theorem chart_good {F : Nat → Prop} {a : Option Addr} {c : Nat} {xs : List Srv} (fr ln : Nat) (w : World) (hg : Gl w) (h : Sv w F a xs.length c xs) (hF : ∀ k, F k → k < w.heap.size) (ht : timF xs xs.length = none) (h1 : ln ≤ 1000) (h2 : fr + ln ≤ 1099511627776) :
    Calls Tryz.prog 3 #[.slice a xs.length c, .int .i64 (fr : Int), .int .i64 (ln : Int)] w fun e w' => e = .returned (.bool true) ∧ Kept No w w' := by
  have hc := hyper_any F a xs.length c xs w hg h
  rw [(tim_yes ht).1, (tim_yes ht).2] at hc
  have HW : Hid (∀ W, Kept No w W → Calls Tryz.prog 5 #[] W fun e w' => e = .returned (.bool true) ∧ Kept No W w') := fun W k => works_any W (hg.kept k)
  have hFw : ∀ W, Kept No w W → ∀ k, F k → k < W.heap.size := fun W k q hq => Nat.lt_of_lt_of_le (hF q hq) k.size
  obtain ⟨L, hL⟩ : ∃ L, L = Rule.runsOf (Rule.occ (sys xs)) fr ln := ⟨_, rfl⟩
  have hT := Rule.runsOf_tile (Rule.occ (sys xs)) fr ln
  rw [← hL] at hT
  have HCH : Hid (∀ W, Kept No w W → Calls Tryz.prog 6 #[.slice a xs.length c, .int .i64 (fr : Int), .int .i64 ((fr : Int) + (ln : Int))] W fun e w' => e = .returned (.tuple #[.string ⟨(lsB L).toArray⟩, .int .i64 0]) ∧ Kept No W w') := fun W k => by
    have := chart_yes fr (fr + ln) W (hg.kept k) (h.keep k) (hFw W k) ht (by omega) h2 (by omega)
    rw [show fr + ln - fr = ln by omega, ← hL, show ((fr + ln : Nat) : Int) = (fr : Int) + (ln : Int) by omega] at this
    exact this
  have HR : Hid (∀ W, Kept No w W → Calls Tryz.prog 7 #[.slice a xs.length c, .int .i64 (fr : Int), .int .i64 ((fr : Int) + (ln : Int))] W fun e w' => Kept No W w' ∧ ∃ v, e = .returned (.tuple #[v, .int .i64 0]) ∧ Ow w' W.heap.size v L) := fun W k => by
    have := runs_yes fr (fr + ln) W (hg.kept k) (h.keep k) (hFw W k) ht (by omega) h2
    rw [show fr + ln - fr = ln by omega, ← hL, show ((fr + ln : Nat) : Int) = (fr : Int) + (ln : Int) by omega] at this
    refine this.mono ?_
    rintro e w' ⟨k2, ⟨v, _, e1, e2⟩ | ⟨q, _⟩⟩
    · exact ⟨k2, v, e1, e2⟩
    · have := hT.len
      omega
  have hP : ∀ (i : Nat) (x : Nat × Nat), L[i]? = some x → x.2 < 33 ∧ Rule.pre L i + x.1 ≤ ln := fun i x hx => by
    have := part_le hT hx
    have := (vd_of ht).num
    have h5 := Rule.pre_le hT (i + 1)
    rw [Rule.pre_succ hx] at h5
    omega
  have hS : (lsB L).length = ln := by rw [lsB_len]; exact hT.sum
  have hPA : Rule.pre L L.length = ln := by rw [Rule.pre_all]; exact hT.sum
  have HP := hid (And.intro hP (And.intro hPA hS))
  have hLn : L.length ≤ 1000 := Nat.le_trans hT.len h1
  have hLi : (L.length : Int) ≤ 1000 := by omega
  have k0 : decide ((fr : Int) < 0) = false := decide_eq_false (by omega)
  have k1 : decide ((ln : Int) < 0) = false := decide_eq_false (by omega)
  have k2 : decide ((1000 : Int) < (ln : Int)) = false := decide_eq_false (by omega)
  have k3 : decide (1099511627776 - (ln : Int) < (fr : Int)) = false := decide_eq_false (by omega)
  have k2n : decide (1000 < ln) = false := decide_eq_false (by omega)
  have b1 : (ln : Int) ≤ 1000 := by omega
  have b2 : (fr : Int) ≤ 1099511627776 := by omega
  have b3 : (fr : Int) + (ln : Int) ≤ 1099511627776 := by omega
  have g1 : ((ln : Int) != (ln : Int)) = false := by simp
  generalize hyp xs = H at *
  obtain ⟨bs, hbs⟩ : ∃ bs, bs = lsB L := ⟨_, rfl⟩
  rw [← hbs] at HCH hS
  have HBS := hid hbs
  have HB1 := hid (And.intro hLn h1)
  clear h hg hF ht h1 h2 hFw hL hT hP hPA hbs
  go_enter Tryz.func3, Tryz.ntmps3
  go_upto_region 8 with (first
    | (go_at_call 4; refine hc.mono ?_; rintro e w1 ⟨rfl, hk1⟩; have HK1 : Hid (Kept No w w1) := hk1; have hch := HCH.out w1 HK1.out; clear hk1 hc)
    | (go_at_call 6; refine hch.mono ?_; rintro e w2 ⟨rfl, hk2⟩; have HK2 : Hid (Kept No w w2) := HK1.out.trans hk2 (fun _ h => h.elim); have hrn := HR.out w2 HK2.out; clear hk2 hch)
    | (go_at_call 7; refine hrn.mono ?_; rintro e w3 ⟨k3', v, rfl, ho⟩; have H3 : Hid (Kept No w w3 ∧ Ow w3 w2.heap.size v L) := ⟨HK2.out.trans k3' (fun _ h => h.elim), ho⟩; obtain ⟨sa, sc, rfl, hs1, hs2, hs3⟩ := ow_some ho; clear hrn k3' ho))
  clear k0 k1 k2 k3 k2n g1
  generalize w3 = w5 at *
  go_wp2
  go_loopw [13, 14] (fun x y wr => ∃ i : Nat, y = .int .i64 i ∧ x = .int .i64 (Rule.pre L i : Int) ∧ i ≤ L.length ∧ Kept No w5 wr) (fun _ y _ => L.length - (intOf y).toNat)
  case atStart => exact ⟨0, rfl, rfl, Nat.zero_le _, Kept.refl _ _⟩
  case round =>
    obtain ⟨i, rfl, rfl, hi, K⟩ := hrel
    have HKi := hid K
    clear K
    by_cases hlt : i < L.length
    · have hin : (i : Int) < (L.length : Int) := by omega
      obtain ⟨g, rfl, hgl⟩ := hs3 (by omega)
      have hx : L[i]? = some L[i] := List.getElem?_eq_getElem hlt
      obtain ⟨c0, c1⟩ := ow_at2 H3.out.2 hx
      have HAT : Hid (∀ k, k < L[i].1 → bs[Rule.pre L i + k]? = some (ltB L[i].2)) := fun k hk => by rw [HBS.out]; exact lsB_at hx hk
      have hpx := HP.out.1 i _ hx
      have HPS : Hid (Rule.pre L (i + 1) = Rule.pre L i + L[i].1) := Rule.pre_succ hx
      have HI := hid hlt
      have HIB : Hid (i < L.length ∧ L.length ≤ 9223372036854775807) := ⟨hlt, by have := HB1.out; omega⟩
      generalize L[i] = x at *
      obtain ⟨xl, xp⟩ := x
      simp only at c0 c1 HAT hpx HPS
      have HC01 := hid (And.intro c0 c1)
      obtain ⟨p, hp⟩ : ∃ p, p = Rule.pre L i := ⟨_, rfl⟩
      rw [← hp] at HAT hpx HPS
      rw [← hp]
      have HPX := hid hpx
      have hxl : (xl : Int) ≤ 1000 := by omega
      have hpl : (p : Int) ≤ 1000 := by omega
      clear c0 c1 hx hpx hlt hi hp
      generalize wr = wi at *
      go_wp2
      go_loopw [13, 15] (fun y v wr => ∃ k : Nat, v = .int .i64 k ∧ y = .int .i64 ((p + k : Nat) : Int) ∧ k ≤ xl ∧ Kept No w5 wr) (fun _ v _ => xl - (intOf v).toNat)
      case atStart => exact ⟨0, rfl, rfl, Nat.zero_le _, HKi.out⟩
      case round =>
        obtain ⟨k, rfl, rfl, hk, K⟩ := hrel
        have HKk := hid K
        have d0 := K.cell HC01.out.1 (fun h => h)
        clear K
        by_cases hkl : k < xl
        · have hkl2 : (k : Int) < (xl : Int) := by omega
          obtain ⟨z, hz⟩ : ∃ z : Nat, z = p + k := ⟨_, rfl⟩
          have hbz := HAT.out k hkl
          rw [← hz] at hbz
          rw [← hz]
          have HBZ := hid hbz
          have HZ := hid (And.intro hz hkl)
          have HGE : Hid (decide ((bs.length : Int) ≤ (z : Int)) = false) := decide_eq_false (by have := HPX.out; omega)
          have HD1 : Hid (∀ W, Kept No wr W → W.cell? ⟨g, i * 2 + 1, none⟩ = some (.int .i64 (xp : Int))) := fun W kw => (HKk.out.trans kw (fun _ h => h.elim)).cell HC01.out.2 (fun h => h)
          have hzb : (z : Int) ≤ 2000 := by omega
          clear hbz hz hkl hk
          go_upto_region 15 with fail
          clear d0
          refine wp_region_kept wr (by kernel_rfl) (by kernel_rfl) (Kept.refl No wr) ?_
          refine BigFrame.wpQuiet_want rfl (fun KQ hKQ => ?_)
          refine quiet_val' (fun w5 hw5 => er_mv _ rfl (.int .i64 (z : Int)) rfl) ?_
          refine hKQ _ ?_
          clear hKQ KQ
          simp only [Act.put, List.setIfInBounds_toArray, List.set_cons_zero, List.set_cons_succ]
          refine BigFrame.wpQuiet_want rfl (fun KQ hKQ => ?_)
          refine quiet_val' (fun w5 hw5 => er_mv _ rfl (.string ⟨bs.toArray⟩) rfl) ?_
          refine hKQ _ ?_
          clear hKQ KQ
          simp only [Act.put, List.setIfInBounds_toArray, List.set_cons_zero, List.set_cons_succ]
          refine BigFrame.wpQuiet_want rfl (fun KQ hKQ => ?_)
          refine quiet_val' (fun w5 hw5 => er_lenS _ rfl bs rfl) ?_
          refine hKQ _ ?_
          clear hKQ KQ
          simp only [Act.put, List.setIfInBounds_toArray, List.set_cons_zero, List.set_cons_succ]
          refine BigFrame.wpQuiet_want rfl (fun KQ hKQ => ?_)
          refine quiet_val' (fun w5 hw5 => er_geI _ _ rfl (z : Int) (bs.length : Int) false rfl rfl HGE.out) ?_
          refine hKQ _ ?_
          clear hKQ KQ
          simp only [Act.put, List.setIfInBounds_toArray, List.set_cons_zero, List.set_cons_succ]
          refine BigFrame.wpQuiet_want rfl (fun KQ hKQ => ?_)
          refine quiet_val' (fun w5 hw5 => er_mv _ rfl (.bool false) rfl) ?_
          refine hKQ _ ?_
          clear hKQ KQ
          simp only [Act.put, List.setIfInBounds_toArray, List.set_cons_zero, List.set_cons_succ]
          refine BigFrame.wpQuiet_want rfl (fun KQ hKQ => ?_)
          refine quiet_val' (fun w5 hw5 => er_mv _ rfl (.string ⟨bs.toArray⟩) rfl) ?_
          refine hKQ _ ?_
          clear hKQ KQ
          simp only [Act.put, List.setIfInBounds_toArray, List.set_cons_zero, List.set_cons_succ]
          refine BigFrame.wpQuiet_want rfl (fun KQ hKQ => ?_)
          refine quiet_val' (fun w5 hw5 => er_mv _ rfl (.int .i64 (z : Int)) rfl) ?_
          refine hKQ _ ?_
          clear hKQ KQ
          simp only [Act.put, List.setIfInBounds_toArray, List.set_cons_zero, List.set_cons_succ]
          refine BigFrame.wpQuiet_want rfl (fun KQ hKQ => ?_)
          refine quiet_val' (fun w5 hw5 => er_ixS _ _ rfl bs z (ltB xp) rfl rfl HBZ.out) ?_
          refine hKQ _ ?_
          clear hKQ KQ
          simp only [Act.put, List.setIfInBounds_toArray, List.set_cons_zero, List.set_cons_succ]
          refine BigFrame.wpQuiet_want rfl (fun KQ hKQ => ?_)
          refine quiet_val' (fun w5 hw5 => er_mv _ rfl (.slice (some ⟨g, 0, none⟩) L.length sc) rfl) ?_
          refine hKQ _ ?_
          clear hKQ KQ
          simp only [Act.put, List.setIfInBounds_toArray, List.set_cons_zero, List.set_cons_succ]
          refine BigFrame.wpQuiet_want rfl (fun KQ hKQ => ?_)
          refine quiet_val' (fun w5 hw5 => er_mv _ rfl (.int .i64 (i : Int)) rfl) ?_
          refine hKQ _ ?_
          clear hKQ KQ
          simp only [Act.put, List.setIfInBounds_toArray, List.set_cons_zero, List.set_cons_succ]
          refine BigFrame.wpQuiet_want rfl (fun KQ hKQ => ?_)
          refine quiet_val' (fun w5 hw5 => er_ixSl _ _ rfl g L.length sc i HIB.out.1 HIB.out.2 rfl rfl) ?_
          refine hKQ _ ?_
          clear hKQ KQ
          simp only [Act.put, List.setIfInBounds_toArray, List.set_cons_zero, List.set_cons_succ]
          refine BigFrame.wpQuiet_want rfl (fun KQ hKQ => ?_)
          refine quiet_val' (fun w5 hw5 => er_fSl1 _ rfl g (i * 2) rfl) ?_
          refine hKQ _ ?_
          clear hKQ KQ
          simp only [Act.put, List.setIfInBounds_toArray, List.set_cons_zero, List.set_cons_succ]
          refine BigFrame.wpQuiet_want rfl (fun KQ hKQ => ?_)
          refine quiet_val' (fun w5 hw5 => er_ldI _ rfl g (i * 2 + 1) (.int .i64 (xp : Int)) rfl (HD1.out w5 hw5)) ?_
          refine hKQ _ ?_
          clear hKQ KQ
          simp only [Act.put, List.setIfInBounds_toArray, List.set_cons_zero, List.set_cons_succ]
          refine BigFrame.wpQuiet_want rfl (fun KQ hKQ => ?_)
          refine quiet_clt _ rfl (.int .i64 (xp : Int)) (.int .u8 ((ltB xp).toNat : Int)) rfl (fun w5 hw5 => (letl_any xp HPX.out.1 w5).mono (fun e w6 he => ⟨he.1, by rw [he.2]; exact hw5⟩)) ?_
          refine hKQ _ ?_
          clear hKQ KQ
          simp only [Act.put, List.setIfInBounds_toArray, List.set_cons_zero, List.set_cons_succ]
          refine BigFrame.wpQuiet_want rfl (fun KQ hKQ => ?_)
          refine quiet_val' (fun w5 hw5 => er_ne8 _ _ rfl ((ltB xp).toNat : Int) rfl rfl) ?_
          refine hKQ _ ?_
          clear hKQ KQ
          simp only [Act.put, List.setIfInBounds_toArray, List.set_cons_zero, List.set_cons_succ]
          refine BigFrame.wpQuiet_want rfl (fun KQ hKQ => ?_)
          refine quiet_val' (fun w5 hw5 => er_pkF2 _ _ _ rfl (.bool false) rfl rfl) ?_
          refine hKQ _ ?_
          clear hKQ KQ
          simp only [Act.put, List.setIfInBounds_toArray, List.set_cons_zero, List.set_cons_succ]
          refine wpQuiet_nil ?_
          intro w9 k9
          have HK9 : Hid (Kept No w5 w9) := HKk.out.trans k9 (fun _ h => h.elim)
          clear k9
          go_wp2
          go_roundw
          case rel => exact ⟨k + 1, by go_num, by have := HZ.out; go_num, by have := HZ.out; omega, HK9.out⟩
          case measure => have := HZ.out; simp [intOf]; omega
        · have e : xl = k := by omega
          subst e
          go_wp2
          go_roundw
          case rel => exact ⟨i + 1, by go_num, by rw [HPS.out], by have := HI.out; omega, HKk.out⟩
          case measure => have := HI.out; simp [intOf]; omega
    · have e : i = L.length := by omega
      subst e
      rw [HP.out.2.1]
      have hwk := HW.out wr (H3.out.1.trans HKi.out (fun _ h => h.elim))
      have HKZ : Hid (Kept No w wr) := H3.out.1.trans HKi.out (fun _ h => h.elim)
      clear hlt hi hs3
      go_wp2_with (go_at_call 5; refine hwk.mono ?_; rintro e w6 ⟨rfl, hk6⟩; have HK6 : Hid (Kept No w w6) := HKZ.out.trans hk6 (fun _ h => h.elim); clear hk6 hwk)
      go_ret
      exact ⟨rfl, HK6.out⟩
theorem chart_law {F : Nat → Prop} {a : Option Addr} {c : Nat} {xs : List Srv} (fr ln : Int) (w : World) (hg : Gl w) (h : Sv w F a xs.length c xs) (hF : ∀ k, F k → k < w.heap.size) (hl : -9223372036854775808 ≤ ln ∧ ln ≤ 9223372036854775807) :
    Calls Tryz.prog 3 #[.slice a xs.length c, .int .i64 fr, .int .i64 ln] w fun e w' => e = .returned (.bool true) ∧ Kept No w w' := by
  cases ht : timF xs xs.length with
  | some q => exact chart_tim fr ln w hg h ht
  | none =>
    by_cases h0 : fr < 0
    · exact chart_fr fr ln w hg h ht h0
    · by_cases h1 : ln < 0
      · exact chart_ln fr ln w hg h ht h0 h1
      · by_cases h2 : 1000 < ln
        · exact chart_lg fr ln w hg h ht h0 h1 h2
        · by_cases h3 : 1099511627776 - ln < fr
          · exact chart_fa fr ln w hg h ht h0 h1 h2 h3
          · obtain ⟨f, rfl⟩ : ∃ f : Nat, fr = (f : Int) := ⟨fr.toNat, by omega⟩
            obtain ⟨b, rfl⟩ : ∃ b : Nat, ln = (b : Int) := ⟨ln.toNat, by omega⟩
            exact chart_good f b w hg h hF ht (by omega) (by omega)
end Go.Proofs.YthdmbikmjimmkaaGreatDoor
