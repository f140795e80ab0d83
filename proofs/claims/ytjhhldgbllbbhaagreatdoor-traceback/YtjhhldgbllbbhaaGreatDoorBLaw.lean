/-
  TraceBack: the law.
-/
import Derived.Test.YtjhhldgbllbbhaaGreatDoorBDf
import Derived.Test.YtjhhldgbllbbhaaGreatDoorBSh
import Derived.Test.YtjhhldgbllbbhaaGreatDoorBDec
import Derived.Test.YtjhhldgbllbbhaaGreatDoorVRa
namespace Go.Proofs.YtjhhldgbllbbhaaGreatDoor
open Go.RowKit
set_option linter.unusedVariables false
set_option linter.unusedSimpArgs false
set_option maxRecDepth 100000

section
variable {w : World} {a : Act} {o : Oper}
theorem er_slB (x y : Operand) (ho : o.op = .slice 35 x none (some y) none) (g : Option Addr) (n c k : Nat) (hx : a.eval x = .slice g n c) (hy : a.eval y = .int .i64 (k : Int)) (hk : k ≤ n) (hc : n ≤ c) (hg : g = none → c = 0) : (execOp a.eval o).run Tryz.prog w = .ok (.value (.slice g k c)) w := by
  have h1 : (k : Int) ≤ (c : Int) := by omega
  simp only [execOp, ho, hx, Option.map_some, Option.map_none, hy]
  cases g with
  | none =>
    have := hg rfl
    subst this
    obtain rfl : k = 0 := by omega
    simp [go_sem]
  | some ad =>
    have h2 : k ≤ c := by omega
    simp [go_sem, h1, h2]
theorem er_sub1 (x y : Operand) (ho : o.op = .binOp .sub 3 x y 3) (u v z : Int) (hx : a.eval x = .int .i64 u) (hy : a.eval y = .int .i64 v) (hz : wrap64 (u - v) = z) : (execOp a.eval o).run Tryz.prog w = .ok (.value (.int .i64 z)) w := by
  subst hz
  simp only [execOp, ho, hx, hy]; simp [go_sem]
  rw [IntKind.wrap_i64]
  unfold wrap64
  first | rfl | omega
theorem er_cGoL (x : Operand) (t : TypeId) (ho : o.op = .call { callee := .value (.func 6), args := #[x], argTypes := #[t] }) (u : Value) (hx : a.eval x = u) : (execOp a.eval o).run Tryz.prog w = .ok (.enter 6 #[u]) w := by
  subst hx
  simp [execOp, ho, go_sem, Act.eval]
theorem er_neE (x y : Operand) (ho : o.op = .binOp .neq 31 x y 31) (u v : Int) (c : Bool) (hx : a.eval x = .int .i64 u) (hy : a.eval y = .int .i64 v) (hc : (u != v) = c) : (execOp a.eval o).run Tryz.prog w = .ok (.value (.bool c)) w := by
  subst hc
  simp only [execOp, ho, hx, hy]; simp [go_sem]
theorem er_neB (x y : Operand) (ho : o.op = .binOp .neq 4 x y 4) (u : Bool) (hx : a.eval x = .bool u) (hy : a.eval y = .bool u) : (execOp a.eval o).run Tryz.prog w = .ok (.value (.bool false)) w := by
  simp only [execOp, ho, hx, hy]; simp [go_sem]
theorem er_eqS (x y : Operand) (ho : o.op = .binOp .eql 9 x y 9) (u v : ByteArray) (c : Bool) (hx : a.eval x = .string u) (hy : a.eval y = .string v) (hc : (u.toList == v.toList) = c) : (execOp a.eval o).run Tryz.prog w = .ok (.value (.bool c)) w := by
  subst hc
  simp only [execOp, ho, hx, hy]; simp [go_sem]
end
section
variable {P : Program} {md : Region.Mode} {ops : Array Oper} {Q : Exit → Act → World → Prop} {S : World → Prop} {fuel : Nat} {listed : Array Bool} {a : Act} {w : World}
theorem d_skip (i k : Nat) {oi : Oper} (hi : ops[i]? = some oi) (hd : oi.dst = some k) (hs : Region.noSelect ops = true) (hf : Region.free md ops listed i = true) (hr : (Region.ready md ops listed).contains i = true)
    (hQ : ∀ c a w, Q (.panic c) (a.put (some k) undef) w → Q (.panic c) a w) (hw : Region.wanted oi (yielded ops a.tmps) = false) (hS : S w)
    (h : wpAnyH P md ops Q S fuel (listed.setIfInBounds i true) (a.put (some k) undef) w) : wpAnyH P md ops Q S (fuel + 1) listed a w :=
  h_skip i hi hs hf hr (by rw [hd]; exact hQ) hw hS (by rw [hd]; exact h)
end
theorem byt_inj {u v : ByteArray} (h : u.toList = v.toList) : u = v := by
  rw [Lib.toList_data, Lib.toList_data] at h
  cases u; cases v
  exact congrArg ByteArray.mk (Array.toList_inj.1 h)
def allB (xs : List Ev) (k : Nat) : Bool := (xs.take k).all (fun x => decide x.Go)
theorem allB_succ {xs : List Ev} {k : Nat} {x : Ev} (hx : xs[k]? = some x) : allB xs (k + 1) = (allB xs k && decide x.Go) := by
  unfold allB
  rw [List.take_add_one, List.all_append, hx]
  simp
theorem allB_all {xs : List Ev} {n : Nat} (hn : xs.length ≤ n) : allB xs n = decide (∀ x ∈ xs, x.Go) := by
  unfold allB
  rw [List.take_of_length_le hn]
  by_cases h : ∀ x ∈ xs, x.Go
  · rw [decide_eq_true h]; simp; exact h
  · rw [decide_eq_false h]; simp; simpa using h
set_option maxHeartbeats 32000000 in
theorem back_law {F G : Nat → Prop} {a : Option Addr} {n c : Nat} {xs : List Ev} {y : Ev} {ea : Option Addr} {ec : Nat} (w : World) (hx : Il w F a n c xs) (hy : Ir w G y ea ec) (en : En w) (hf : ∀ x ∈ xs, x.Fit) (hfy : y.Fit) (hn : n * 72 ≤ 140737488351232) :
    Calls Tryz.prog 3 #[.slice a n c, .agg (y.val ea ec)] w fun r w' => r = .returned (.bool true) ∧ Kept No w w' := by
  obtain ⟨w2, e2⟩ : ∃ w2, w2 = w.alloc (.cells #[.int .i64 y.tk, .int .i64 y.pt, .int .i64 y.kd, .int .i64 y.pr, .int .i64 y.ea, .int .i64 y.eb, .slice ea y.d.length ec] 25) := ⟨_, rfl⟩
  have K1 : Kept No w w2 := by rw [e2]; exact (Kept.refl No w).alloc _
  have BA : w2.heap[w.heap.size]? = some (.cells (y.val ea ec) 25) := by rw [e2]; exact alloc_new w _
  have HLB : Hid (∀ W, Kept No w2 W → (Instr.loadAt 25 (.pointer (some ⟨w.heap.size, 0, none⟩))).run Tryz.prog W = .ok (.agg (y.val ea ec)) W) := fun W q => ldI (o := 0) (fun j v hv => by rw [Nat.zero_add]; exact q.cell (by rw [cell_blk BA, ← Array.getElem?_toList]; exact hv) (fun e => e))
  have HB6 : Hid (∀ W, Kept No w2 W → W.cell? ⟨w.heap.size, 6, none⟩ = some (.slice ea y.d.length ec)) := fun W q => q.cell ((cell_blk BA 6).trans rfl) (fun e => e)
  have HX : Hid (∀ W, Kept No w2 W → Il W F a n c xs) := fun W q => (hx.keep K1).keep q
  have HY : Hid (∀ W, Kept No w2 W → Ir W G y ea ec) := fun W q => (hy.keep K1).keep q
  have HE : Hid (∀ W, Kept No w2 W → En W) := fun W q => (en.keep K1).keep q
  have HF := hid (And.intro hf hfy)
  have HLV : Hid (∀ W, Kept No w2 W → Calls Tryz.prog 5 #[] W fun r w' => r = .returned (.bool true) ∧ Kept No w2 w') := fun W q => (lives_yes W (HE.out W q)).mono (fun e w' h => ⟨h.1, q.trans h.2 (fun _ e => e.elim)⟩)
  have hxc := hx.cap
  have hxm := hx.max
  have hxl := hx.len
  have hyc := hy.zs.cap
  have hym := hy.zs.max
  have c1 := shortS_any w2 (HX.out w2 (Kept.refl _ _)) hn
  have HK1 := hid K1
  clear hx hy en K1 BA hf hfy
  show Calls Tryz.prog 3 #[.slice a n c, .agg #[.int .i64 y.tk, .int .i64 y.pt, .int .i64 y.kd, .int .i64 y.pr, .int .i64 y.ea, .int .i64 y.eb, .slice ea y.d.length ec]] w _
  go_enter Tryz.func3, Tryz.ntmps3
  go_upto_region 1 with fail
  rw [← e2]
  clear e2
  go_cut [31] (fun u wd => Kept No w2 wd ∧ (u = .bool true ∨ (u = .bool false ∧ Hid ((∀ x ∈ xs, x.d.length ≤ 16) → xs.length + wds xs ≤ 5000))))
  case first =>
    by_cases hbd : (5000 : Int) < (y.d.length : Int)
    · generalize y.d.length = dn at *
      go_wp2_with (go_at_call 4; refine c1.mono ?_; rintro e w3 ⟨⟨v, rfl, hv⟩, k3⟩; have c6 := HB6.out w3 k3; have K3 := hid k3; clear k3 c1 hv; cases v)
      all_goals go_meet
      all_goals exact ⟨K3.out, .inl rfl⟩
    · generalize y.d.length = dn at *
      go_wp2_with (first
        | (go_at_call 4; refine c1.mono ?_; rintro e w3 ⟨⟨v, rfl, hv⟩, k3⟩; have c6 := HB6.out w3 k3; have c3 := HLV.out w3 k3; have K3 := hid k3; have HV := hid hv; clear k3 c1 hv; cases v)
        | (go_at_call 5; refine c3.mono ?_; rintro e w4 ⟨rfl, k4⟩; have K4 := hid k4; clear k4 c3))
      all_goals go_meet
      all_goals first
        | exact ⟨K3.out, .inl rfl⟩
        | (refine ⟨K4.out, .inr ⟨congrArg Value.bool (decide_eq_false hbd), ?_⟩⟩; exact hid (fun h => HV.out h (by trivial)))
        | (refine ⟨K4.out, .inr ⟨?_, hid (fun h => HV.out h (by trivial))⟩⟩; exact congrArg Value.bool (decide_eq_false hbd))
        | (refine ⟨K4.out, .inr ⟨?_, hid (fun h => HV.out h (by trivial))⟩⟩; simp; omega)
  case rest =>
  rename World => w4
  obtain ⟨k4, hb4⟩ := hcut
  have K4 := hid k4
  clear k4 c1 HB6
  rcases hb4 with rfl | ⟨rfl, HSH⟩
  · have c5 := HLV.out w4 K4.out
    go_wp2_with (go_at_call 5; refine c5.mono ?_; rintro e w5 ⟨rfl, k5⟩; have K5 := hid k5; clear k5 c5)
    go_ret
    exact ⟨rfl, HK1.out.trans K5.out (fun _ e => e.elim)⟩
  clear HLV
  go_wp2
  go_loopw [5, 6, 7, 8, 9, 10, 11, 12] (fun u5 u6 _ _ _ _ _ _ wr => ∃ (k : Nat), k ≤ n ∧ u5 = .bool (allB xs k) ∧ u6 = .int .i64 k ∧ Kept No w2 wr) (fun _ u6 _ _ _ _ _ _ _ => n - (intOf u6).toNat)
  case atStart => exact ⟨0, by omega, by unfold allB; simp, rfl, K4.out⟩
  case round =>
    clear K4
    obtain ⟨k, hk, rfl, rfl, kr⟩ := hrel
    have HK := hid kr
    clear kr
    by_cases hlt : k < n
    · have hltz : (k : Int) < (n : Int) := by omega
      obtain ⟨x, hxk⟩ : ∃ x, xs[k]? = some x := ⟨_, List.getElem?_eq_getElem (by omega)⟩
      obtain ⟨b1, o1, da, dc, rfl, _, hc, ir⟩ := (HX.out wr HK.out).at' k x hxk
      have LA : Hid (∀ W, Kept No wr W → (Instr.loadAt 25 (.pointer (some ⟨b1, o1 + k * 7, none⟩))).run Tryz.prog W = .ok (.agg (x.val da dc)) W) := fun W q => ldI (fun j v hv => q.cell (hc j v hv) (fun e => e))
      have HIR : Hid (∀ W, Kept No wr W → Ir W F x da dc) := fun W q => ir.keep q
      have HGL : Hid (∀ W, Kept No wr W → Calls Tryz.prog 6 #[.agg (x.val da dc)] W fun r w' => r = .returned (.bool (decide x.Go)) ∧ Kept No wr w') := fun W q => (goesl_any (x := x) (da := da) (dc := dc) W).mono (fun e w' h => ⟨h.1, q.trans h.2 (fun _ e => e.elim)⟩)
      have hfx : x.Fit := HF.out.1 x (List.mem_of_getElem? hxk)
      have HAT : Hid (allB xs (k + 1) = (allB xs k && decide x.Go)) := allB_succ hxk
      clear hc ir hxk
      generalize allB xs k = A at *
      go_upto_region 7 with fail
      go_cut [5] (fun u wd => u = .bool (A && decide x.Go) ∧ Kept No wr wd)
      case first =>
        have GC := HGL.out wr (Kept.refl _ _)
        generalize decide x.Go = g at *
        cases A
        · go_wp2
          go_meet
          exact ⟨rfl, Kept.refl _ _⟩
        · go_wp2_with (first
            | (refine l_take 44 rfl rfl (er_ldX 25 (.tmp 43) rfl (.pointer (some ⟨b1, o1 + k * 7, none⟩)) (.agg (x.val da dc)) rfl (LA.out _ (Kept.refl _ _))) ?_)
            | (go_at_call 6; refine GC.mono ?_; rintro r w5 ⟨rfl, k5⟩; have K5 := hid k5; clear k5 GC))
          go_meet
          exact ⟨rfl, K5.out⟩
      case rest =>
      rename World => w5
      obtain ⟨rfl, k5⟩ := hcut
      by_cases hgo : x.Go
      rotate_left
      · have c6 := show_no w5 (HIR.out w5 k5) hgo
        rw [decide_eq_false hgo] at HAT ⊢
        have HG2 : Hid (∀ W, Kept No wr W → Calls Tryz.prog 6 #[.agg (x.val da dc)] W fun r w' => r = .returned (.bool false) ∧ Kept No wr w') := fun W q => by have := HGL.out W q; rwa [decide_eq_false hgo] at this
        have K5 := hid k5
        clear k5 HGL
        go_wp2_with (first
          | (refine l_take 51 rfl rfl (er_ldX 25 (.tmp 50) rfl (.pointer (some ⟨b1, o1 + k * 7, none⟩)) (.agg (x.val da dc)) rfl (LA.out _ K5.out)) ?_)
          | (go_at_call 7; refine c6.mono ?_; rintro r w6 ⟨rfl, k6⟩; have H6 := hid (K5.out.trans k6 (fun _ e => e.elim)); have c7 := HG2.out w6 H6.out; clear k6 c6)
          | (refine l_take 59 rfl rfl (er_ldX 25 (.tmp 58) rfl (.pointer (some ⟨b1, o1 + k * 7, none⟩)) (.agg (x.val da dc)) rfl (LA.out _ H6.out)) ?_)
          | (go_at_call 6; refine c7.mono ?_; rintro r w7 ⟨rfl, k7⟩; have H7 := hid k7; clear k7 c7))
        refine ⟨⟨k + 1, by omega, by rw [HAT.out, Bool.and_false], by go_num, HK.out.trans H7.out (fun _ e => e.elim)⟩, ?_⟩
        simp [intOf]; omega
      · have c6 := show_any w5 (HIR.out w5 k5) hgo hfx (HE.out w5 (HK.out.trans k5 (fun _ e => e.elim)))
        rw [decide_eq_true hgo] at HAT ⊢
        have HG2 : Hid (∀ W, Kept No wr W → Calls Tryz.prog 6 #[.agg (x.val da dc)] W fun r w' => r = .returned (.bool true) ∧ Kept No wr w') := fun W q => by have := HGL.out W q; rwa [decide_eq_true hgo] at this
        have HRD : Hid (∀ W, Kept No wr W → Calls Tryz.prog 8 #[.string (lineB x)] W fun r w' => ReadsAs x r w' ∧ Kept No wr w') := fun W q => (read_any W (HE.out W (HK.out.trans q (fun _ e => e.elim))) hgo hfx).mono (fun e w' h => ⟨h.1, q.trans h.2 (fun _ e => e.elim)⟩)
        have HLI := hid (fun (hyg : y.Go) (e : lineB x = lineB y) => line_inj hgo hfx hyg HF.out.2 e)
        have K5 := hid k5
        clear k5 HGL
        go_upto_region 13 with (first
          | (refine l_take 51 rfl rfl (er_ldX 25 (.tmp 50) rfl (.pointer (some ⟨b1, o1 + k * 7, none⟩)) (.agg (x.val da dc)) rfl (LA.out _ K5.out)) ?_)
          | (go_at_call 7; refine c6.mono ?_; rintro r w6 ⟨rfl, k6⟩; have H6 := hid (K5.out.trans k6 (fun _ e => e.elim)); have c7 := HG2.out w6 H6.out; clear k6 c6)
          | (refine l_take 59 rfl rfl (er_ldX 25 (.tmp 58) rfl (.pointer (some ⟨b1, o1 + k * 7, none⟩)) (.agg (x.val da dc)) rfl (LA.out _ H6.out)) ?_)
          | (go_at_call 6; refine c7.mono ?_; rintro r w7 ⟨rfl, k7⟩; have H7 := hid k7; have c8 := HRD.out w7 k7; clear k7 c7)
          | (go_at_call 8; refine c8.mono ?_; rintro r w8 ⟨⟨ya, yc, rfl, ir8⟩, k8⟩; have H8 := hid (And.intro ir8 k8); clear ir8 k8 c8)
          | (refine l_make 9 rfl rfl (er_alI rfl) ?_)
          | (refine l_turn rfl rfl (er_stI _ _ rfl w8.heap.size (x.val ya yc) _ rfl rfl (alloc_new w8 _) rfl rfl (x.val_one ya yc)) ?_))
        obtain ⟨w9, e9⟩ : ∃ w9, w9 = (w8.alloc (.cells Z7 25)).setRow w8.heap.size (x.val ya yc) := ⟨_, rfl⟩
        have K89 : Kept No w8 w9 := by rw [e9]; exact ((Kept.refl No w8).alloc _).setRow (.inr (Nat.le_refl _)) _
        have B9 : w9.heap[w8.heap.size]? = some (.cells (x.val ya yc) 25) := by rw [e9]; exact setRow_heap _ _ _ _ _ (0, 0) (alloc_new w8 _)
        rw [← e9]
        clear e9
        have LE : Hid (∀ W, Kept No w9 W → (Instr.loadAt 25 (.pointer (some ⟨w8.heap.size, 0, none⟩))).run Tryz.prog W = .ok (.agg (x.val ya yc)) W) := fun W q => ldI (o := 0) (x := x) (da := ya) (dc := yc) (fun j v hv => by rw [Nat.zero_add]; exact q.cell (by rw [cell_blk B9, ← Array.getElem?_toList]; exact hv) (fun e => e))
        have HI9 : Hid (Ir w9 An x ya yc) := H8.out.1.keep K89
        have H9 : Hid (Kept No wr w9) := H8.out.2.trans K89 (fun _ e => e.elim)
        have H29 : Hid (Kept No w2 w9) := HK.out.trans H9.out (fun _ e => e.elim)
        clear K89 B9 H8 H7 H6 K5 HRD HG2
        have hA2 : allB xs (k + 1) = A := by rw [HAT.out, Bool.and_true]
        clear HAT
        by_cases hyg : y.Go
        · have c10 := show_any w9 (HY.out w9 H29.out) hyg HF.out.2 (HE.out w9 H29.out)
          have LB9 := hid (HLB.out w9 H29.out)
          obtain ⟨eB, heB⟩ : ∃ e, e = decide (x = y) := ⟨_, rfl⟩
          have hEB0 : ((lineB x).toList == (lineB y).toList) = eB := by
            rw [heB]
            by_cases e : x = y
            · rw [e]; simp
            · rw [decide_eq_false e]
              have hne : ¬ (lineB x).toList = (lineB y).toList := fun h => e (HLI.out hyg (byt_inj h))
              simp [hne]
          have hEB := hid hEB0
          clear HLI hEB0
          generalize lineB x = l1 at *
          generalize lineB y = l2 at *
          go_upto_region 14 with (first
            | (refine l_take 78 rfl rfl (er_ldX 25 (.tmp 3) rfl (.pointer (some ⟨w.heap.size, 0, none⟩)) (.agg (y.val ea ec)) rfl LB9.out) ?_)
            | (go_at_call 7; refine c10.mono ?_; rintro r w10 ⟨rfl, k10⟩; have H10 := hid k10; clear k10 c10))
          have LE2 : Hid (∀ W, Kept No w10 W → (Instr.loadAt 25 (.pointer (some ⟨w8.heap.size, 0, none⟩))).run Tryz.prog W = .ok (.agg (x.val ya yc)) W) := fun W q => LE.out W (H10.out.trans q (fun _ e => e.elim))
          have LA2 : Hid (∀ W, Kept No w10 W → (Instr.loadAt 25 (.pointer (some ⟨b1, o1 + k * 7, none⟩))).run Tryz.prog W = .ok (.agg (x.val da dc)) W) := fun W q => LA.out W (H9.out.trans (H10.out.trans q (fun _ e => e.elim)) (fun _ e => e.elim))
          have LB2 : Hid (∀ W, Kept No w10 W → (Instr.loadAt 25 (.pointer (some ⟨w.heap.size, 0, none⟩))).run Tryz.prog W = .ok (.agg (y.val ea ec)) W) := fun W q => HLB.out W (H29.out.trans (H10.out.trans q (fun _ e => e.elim)) (fun _ e => e.elim))
          have CS1 : Hid (∀ W, Kept No w10 W → Calls Tryz.prog 9 #[.agg (x.val ya yc), .agg (x.val da dc)] W fun e w'' => e = .returned (.bool true) ∧ Kept No w10 w'') := fun W q => (sameE_any W (HI9.out.keep (H10.out.trans q (fun _ e => e.elim))) (HIR.out W (H9.out.trans (H10.out.trans q (fun _ e => e.elim)) (fun _ e => e.elim)))).mono (fun r w'' h => ⟨by rw [h.1, decide_eq_true rfl], q.trans h.2 (fun _ e => e.elim)⟩)
          have CG : Hid (∀ W, Kept No w10 W → Calls Tryz.prog 6 #[.agg (y.val ea ec)] W fun e w'' => e = .returned (.bool true) ∧ Kept No w10 w'') := fun W q => (goesl_any (x := y) (da := ea) (dc := ec) W).mono (fun r w'' h => ⟨by rw [h.1, decide_eq_true hyg], q.trans h.2 (fun _ e => e.elim)⟩)
          have CS2 : Hid (∀ W, Kept No w10 W → Calls Tryz.prog 9 #[.agg (x.val da dc), .agg (y.val ea ec)] W fun e w'' => e = .returned (.bool eB) ∧ Kept No w10 w'') := fun W q => (sameE_any W (HIR.out W (H9.out.trans (H10.out.trans q (fun _ e => e.elim)) (fun _ e => e.elim))) (HY.out W (H29.out.trans (H10.out.trans q (fun _ e => e.elim)) (fun _ e => e.elim)))).mono (fun r w'' h => ⟨by rw [h.1, heB], q.trans h.2 (fun _ e => e.elim)⟩)
          refine wp_region_held_drew (S := fun W => Kept No w10 W) (by kernel_rfl) ((Kept.refl No w10).drew) (fun hS => ?_)
          refine d_take 0 82 rfl rfl (by kernel_rfl) (by kernel_rfl) (by kernel_rfl) (fun _ _ _ h => h) rfl (fun w' hw' => er_mv _ rfl (.int .i64 0) rfl) hS ?_
          simp only [Act.put, List.setIfInBounds_toArray, List.set_cons_zero, List.set_cons_succ]
          refine d_take 1 83 rfl rfl (by kernel_rfl) (by kernel_rfl) (by kernel_rfl) (fun _ _ _ h => h) rfl (fun w' hw' => er_neE _ _ rfl 0 0 false rfl rfl rfl) hS ?_
          simp only [Act.put, List.setIfInBounds_toArray, List.set_cons_zero, List.set_cons_succ]
          refine d_take 2 84 rfl rfl (by kernel_rfl) (by kernel_rfl) (by kernel_rfl) (fun _ _ _ h => h) rfl (fun w' hw' => er_mv _ rfl (.bool false) rfl) hS ?_
          simp only [Act.put, List.setIfInBounds_toArray, List.set_cons_zero, List.set_cons_succ]
          refine d_take 3 85 rfl rfl (by kernel_rfl) (by kernel_rfl) (by kernel_rfl) (fun _ _ _ h => h) rfl (fun w' hw' => er_ldX 25 _ rfl (.pointer (some ⟨w8.heap.size, 0, none⟩)) (.agg (x.val ya yc)) rfl (LE2.out w' hw')) hS ?_
          simp only [Act.put, List.setIfInBounds_toArray, List.set_cons_zero, List.set_cons_succ]
          refine d_take 4 86 rfl rfl (by kernel_rfl) (by kernel_rfl) (by kernel_rfl) (fun _ _ _ h => h) rfl (fun w' hw' => er_mv _ rfl (.slice (some ⟨b1, o1, none⟩) n c) rfl) hS ?_
          simp only [Act.put, List.setIfInBounds_toArray, List.set_cons_zero, List.set_cons_succ]
          refine d_take 5 87 rfl rfl (by kernel_rfl) (by kernel_rfl) (by kernel_rfl) (fun _ _ _ h => h) rfl (fun w' hw' => er_mv _ rfl (.int .i64 (k : Int)) rfl) hS ?_
          simp only [Act.put, List.setIfInBounds_toArray, List.set_cons_zero, List.set_cons_succ]
          refine d_take 6 88 rfl rfl (by kernel_rfl) (by kernel_rfl) (by kernel_rfl) (fun _ _ _ h => h) rfl (fun w' hw' => er_ixN _ _ rfl b1 o1 k n c rfl rfl hlt) hS ?_
          simp only [Act.put, List.setIfInBounds_toArray, List.set_cons_zero, List.set_cons_succ]
          refine d_take 7 89 rfl rfl (by kernel_rfl) (by kernel_rfl) (by kernel_rfl) (fun _ _ _ h => h) rfl (fun w' hw' => er_ldX 25 _ rfl (.pointer (some ⟨b1, o1 + k * 7, none⟩)) (.agg (x.val da dc)) rfl (LA2.out w' hw')) hS ?_
          simp only [Act.put, List.setIfInBounds_toArray, List.set_cons_zero, List.set_cons_succ]
          refine d_call 8 90 (by kernel_rfl) rfl rfl rfl (er_cSame _ _ _ _ rfl (.agg (x.val ya yc)) (.agg (x.val da dc)) rfl rfl) (CS1.out _ hS) (fun w' hS => ?_)
          simp only [Act.put, List.setIfInBounds_toArray, List.set_cons_zero, List.set_cons_succ]
          refine d_take 9 91 rfl rfl (by kernel_rfl) (by kernel_rfl) (by kernel_rfl) (fun _ _ _ h => h) rfl (fun w' hw' => er_not _ rfl true rfl) hS ?_
          simp only [Act.put, List.setIfInBounds_toArray, List.set_cons_zero, List.set_cons_succ]
          refine d_take 10 92 rfl rfl (by kernel_rfl) (by kernel_rfl) (by kernel_rfl) (fun _ _ _ h => h) rfl (fun w' hw' => er_pk _ _ _ rfl false (.bool false) rfl rfl) hS ?_
          simp only [Act.put, List.setIfInBounds_toArray, List.set_cons_zero, List.set_cons_succ]
          refine d_take 11 93 rfl rfl (by kernel_rfl) (by kernel_rfl) (by kernel_rfl) (fun _ _ _ h => h) rfl (fun w' hw' => er_mv _ rfl (.bool false) rfl) hS ?_
          simp only [Act.put, List.setIfInBounds_toArray, List.set_cons_zero, List.set_cons_succ]
          refine d_take 12 94 rfl rfl (by kernel_rfl) (by kernel_rfl) (by kernel_rfl) (fun _ _ _ h => h) rfl (fun w' hw' => er_mv _ rfl (.bool true) rfl) hS ?_
          simp only [Act.put, List.setIfInBounds_toArray, List.set_cons_zero, List.set_cons_succ]
          refine d_take 13 95 rfl rfl (by kernel_rfl) (by kernel_rfl) (by kernel_rfl) (fun _ _ _ h => h) rfl (fun w' hw' => er_ldX 25 _ rfl (.pointer (some ⟨w.heap.size, 0, none⟩)) (.agg (y.val ea ec)) rfl (LB2.out w' hw')) hS ?_
          simp only [Act.put, List.setIfInBounds_toArray, List.set_cons_zero, List.set_cons_succ]
          refine d_call 14 96 (by kernel_rfl) rfl rfl rfl (er_cGoL _ _ rfl (.agg (y.val ea ec)) rfl) (CG.out _ hS) (fun w' hS => ?_)
          simp only [Act.put, List.setIfInBounds_toArray, List.set_cons_zero, List.set_cons_succ]
          refine d_take 15 97 rfl rfl (by kernel_rfl) (by kernel_rfl) (by kernel_rfl) (fun _ _ _ h => h) rfl (fun w' hw' => er_neB _ _ rfl true rfl rfl) hS ?_
          simp only [Act.put, List.setIfInBounds_toArray, List.set_cons_zero, List.set_cons_succ]
          refine d_take 16 98 rfl rfl (by kernel_rfl) (by kernel_rfl) (by kernel_rfl) (fun _ _ _ h => h) rfl (fun w' hw' => er_pk _ _ _ rfl false (.bool false) rfl rfl) hS ?_
          simp only [Act.put, List.setIfInBounds_toArray, List.set_cons_zero, List.set_cons_succ]
          refine d_take 17 99 rfl rfl (by kernel_rfl) (by kernel_rfl) (by kernel_rfl) (fun _ _ _ h => h) rfl (fun w' hw' => er_mv _ rfl (.bool false) rfl) hS ?_
          simp only [Act.put, List.setIfInBounds_toArray, List.set_cons_zero, List.set_cons_succ]
          refine d_take 18 100 rfl rfl (by kernel_rfl) (by kernel_rfl) (by kernel_rfl) (fun _ _ _ h => h) rfl (fun w' hw' => er_mv _ rfl (.bool true) rfl) hS ?_
          simp only [Act.put, List.setIfInBounds_toArray, List.set_cons_zero, List.set_cons_succ]
          refine d_take 19 101 rfl rfl (by kernel_rfl) (by kernel_rfl) (by kernel_rfl) (fun _ _ _ h => h) rfl (fun w' hw' => er_mv _ rfl (.bool true) rfl) hS ?_
          simp only [Act.put, List.setIfInBounds_toArray, List.set_cons_zero, List.set_cons_succ]
          refine d_take 20 102 rfl rfl (by kernel_rfl) (by kernel_rfl) (by kernel_rfl) (fun _ _ _ h => h) rfl (fun w' hw' => er_mv _ rfl (.string l1) rfl) hS ?_
          simp only [Act.put, List.setIfInBounds_toArray, List.set_cons_zero, List.set_cons_succ]
          refine d_take 21 103 rfl rfl (by kernel_rfl) (by kernel_rfl) (by kernel_rfl) (fun _ _ _ h => h) rfl (fun w' hw' => er_mv _ rfl (.string l2) rfl) hS ?_
          simp only [Act.put, List.setIfInBounds_toArray, List.set_cons_zero, List.set_cons_succ]
          refine d_take 22 104 rfl rfl (by kernel_rfl) (by kernel_rfl) (by kernel_rfl) (fun _ _ _ h => h) rfl (fun w' hw' => er_eqS _ _ rfl l1 l2 eB rfl rfl hEB.out) hS ?_
          simp only [Act.put, List.setIfInBounds_toArray, List.set_cons_zero, List.set_cons_succ]
          refine d_take 23 105 rfl rfl (by kernel_rfl) (by kernel_rfl) (by kernel_rfl) (fun _ _ _ h => h) rfl (fun w' hw' => er_pk _ _ _ rfl true (.bool eB) rfl rfl) hS ?_
          simp only [Act.put, List.setIfInBounds_toArray, List.set_cons_zero, List.set_cons_succ]
          refine d_take 24 106 rfl rfl (by kernel_rfl) (by kernel_rfl) (by kernel_rfl) (fun _ _ _ h => h) rfl (fun w' hw' => er_mv _ rfl (.slice (some ⟨b1, o1, none⟩) n c) rfl) hS ?_
          simp only [Act.put, List.setIfInBounds_toArray, List.set_cons_zero, List.set_cons_succ]
          refine d_take 25 107 rfl rfl (by kernel_rfl) (by kernel_rfl) (by kernel_rfl) (fun _ _ _ h => h) rfl (fun w' hw' => er_mv _ rfl (.int .i64 (k : Int)) rfl) hS ?_
          simp only [Act.put, List.setIfInBounds_toArray, List.set_cons_zero, List.set_cons_succ]
          refine d_take 26 108 rfl rfl (by kernel_rfl) (by kernel_rfl) (by kernel_rfl) (fun _ _ _ h => h) rfl (fun w' hw' => er_ixN _ _ rfl b1 o1 k n c rfl rfl hlt) hS ?_
          simp only [Act.put, List.setIfInBounds_toArray, List.set_cons_zero, List.set_cons_succ]
          refine d_take 27 109 rfl rfl (by kernel_rfl) (by kernel_rfl) (by kernel_rfl) (fun _ _ _ h => h) rfl (fun w' hw' => er_ldX 25 _ rfl (.pointer (some ⟨b1, o1 + k * 7, none⟩)) (.agg (x.val da dc)) rfl (LA2.out w' hw')) hS ?_
          simp only [Act.put, List.setIfInBounds_toArray, List.set_cons_zero, List.set_cons_succ]
          refine d_take 28 110 rfl rfl (by kernel_rfl) (by kernel_rfl) (by kernel_rfl) (fun _ _ _ h => h) rfl (fun w' hw' => er_ldX 25 _ rfl (.pointer (some ⟨w.heap.size, 0, none⟩)) (.agg (y.val ea ec)) rfl (LB2.out w' hw')) hS ?_
          simp only [Act.put, List.setIfInBounds_toArray, List.set_cons_zero, List.set_cons_succ]
          refine d_call 29 111 (by kernel_rfl) rfl rfl rfl (er_cSame _ _ _ _ rfl (.agg (x.val da dc)) (.agg (y.val ea ec)) rfl rfl) (CS2.out _ hS) (fun w' hS => ?_)
          simp only [Act.put, List.setIfInBounds_toArray, List.set_cons_zero, List.set_cons_succ]
          refine d_take 30 112 rfl rfl (by kernel_rfl) (by kernel_rfl) (by kernel_rfl) (fun _ _ _ h => h) rfl (fun w' hw' => er_neB _ _ rfl eB rfl rfl) hS ?_
          simp only [Act.put, List.setIfInBounds_toArray, List.set_cons_zero, List.set_cons_succ]
          refine d_take 31 113 rfl rfl (by kernel_rfl) (by kernel_rfl) (by kernel_rfl) (fun _ _ _ h => h) rfl (fun w' hw' => er_pk _ _ _ rfl false (.bool false) rfl rfl) hS ?_
          simp only [Act.put, List.setIfInBounds_toArray, List.set_cons_zero, List.set_cons_succ]
          refine wpAnyH_done (by kernel_rfl) ?_ _
          have H11 := hid hS
          clear hS CS1 CS2 CG LE2 LA2 LB2
          go_wp2
          refine ⟨⟨k + 1, by omega, by rw [hA2]; try simp, by go_num, H29.out.trans (H10.out.trans H11.out (fun _ e => e.elim)) (fun _ e => e.elim)⟩, ?_⟩
          simp [intOf]; omega
        · have c10 := show_no w9 (HY.out w9 H29.out) hyg
          have LB9 := hid (HLB.out w9 H29.out)
          clear HLI
          generalize lineB x = l1 at *
          go_upto_region 14 with (first
            | (refine l_take 78 rfl rfl (er_ldX 25 (.tmp 3) rfl (.pointer (some ⟨w.heap.size, 0, none⟩)) (.agg (y.val ea ec)) rfl LB9.out) ?_)
            | (go_at_call 7; refine c10.mono ?_; rintro r w10 ⟨rfl, k10⟩; have H10 := hid k10; clear k10 c10))
          have LE2 : Hid (∀ W, Kept No w10 W → (Instr.loadAt 25 (.pointer (some ⟨w8.heap.size, 0, none⟩))).run Tryz.prog W = .ok (.agg (x.val ya yc)) W) := fun W q => LE.out W (H10.out.trans q (fun _ e => e.elim))
          have LA2 : Hid (∀ W, Kept No w10 W → (Instr.loadAt 25 (.pointer (some ⟨b1, o1 + k * 7, none⟩))).run Tryz.prog W = .ok (.agg (x.val da dc)) W) := fun W q => LA.out W (H9.out.trans (H10.out.trans q (fun _ e => e.elim)) (fun _ e => e.elim))
          have LB2 : Hid (∀ W, Kept No w10 W → (Instr.loadAt 25 (.pointer (some ⟨w.heap.size, 0, none⟩))).run Tryz.prog W = .ok (.agg (y.val ea ec)) W) := fun W q => HLB.out W (H29.out.trans (H10.out.trans q (fun _ e => e.elim)) (fun _ e => e.elim))
          have CS1 : Hid (∀ W, Kept No w10 W → Calls Tryz.prog 9 #[.agg (x.val ya yc), .agg (x.val da dc)] W fun e w'' => e = .returned (.bool true) ∧ Kept No w10 w'') := fun W q => (sameE_any W (HI9.out.keep (H10.out.trans q (fun _ e => e.elim))) (HIR.out W (H9.out.trans (H10.out.trans q (fun _ e => e.elim)) (fun _ e => e.elim)))).mono (fun r w'' h => ⟨by rw [h.1, decide_eq_true rfl], q.trans h.2 (fun _ e => e.elim)⟩)
          have CG : Hid (∀ W, Kept No w10 W → Calls Tryz.prog 6 #[.agg (y.val ea ec)] W fun e w'' => e = .returned (.bool false) ∧ Kept No w10 w'') := fun W q => (goesl_any (x := y) (da := ea) (dc := ec) W).mono (fun r w'' h => ⟨by rw [h.1, decide_eq_false hyg], q.trans h.2 (fun _ e => e.elim)⟩)
          have CS2 : Hid (∀ W, Kept No w10 W → Calls Tryz.prog 9 #[.agg (x.val da dc), .agg (y.val ea ec)] W fun e w'' => e = .returned (.bool false) ∧ Kept No w10 w'') := fun W q => (sameE_any W (HIR.out W (H9.out.trans (H10.out.trans q (fun _ e => e.elim)) (fun _ e => e.elim))) (HY.out W (H29.out.trans (H10.out.trans q (fun _ e => e.elim)) (fun _ e => e.elim)))).mono (fun r w'' h => ⟨by rw [h.1, decide_eq_false (fun e : x = y => hyg (e ▸ hgo))], q.trans h.2 (fun _ e => e.elim)⟩)
          refine wp_region_held_drew (S := fun W => Kept No w10 W) (by kernel_rfl) ((Kept.refl No w10).drew) (fun hS => ?_)
          refine d_take 0 82 rfl rfl (by kernel_rfl) (by kernel_rfl) (by kernel_rfl) (fun _ _ _ h => h) rfl (fun w' hw' => er_mv _ rfl (.int .i64 0) rfl) hS ?_
          simp only [Act.put, List.setIfInBounds_toArray, List.set_cons_zero, List.set_cons_succ]
          refine d_take 1 83 rfl rfl (by kernel_rfl) (by kernel_rfl) (by kernel_rfl) (fun _ _ _ h => h) rfl (fun w' hw' => er_neE _ _ rfl 0 0 false rfl rfl rfl) hS ?_
          simp only [Act.put, List.setIfInBounds_toArray, List.set_cons_zero, List.set_cons_succ]
          refine d_take 2 84 rfl rfl (by kernel_rfl) (by kernel_rfl) (by kernel_rfl) (fun _ _ _ h => h) rfl (fun w' hw' => er_mv _ rfl (.bool false) rfl) hS ?_
          simp only [Act.put, List.setIfInBounds_toArray, List.set_cons_zero, List.set_cons_succ]
          refine d_take 3 85 rfl rfl (by kernel_rfl) (by kernel_rfl) (by kernel_rfl) (fun _ _ _ h => h) rfl (fun w' hw' => er_ldX 25 _ rfl (.pointer (some ⟨w8.heap.size, 0, none⟩)) (.agg (x.val ya yc)) rfl (LE2.out w' hw')) hS ?_
          simp only [Act.put, List.setIfInBounds_toArray, List.set_cons_zero, List.set_cons_succ]
          refine d_take 4 86 rfl rfl (by kernel_rfl) (by kernel_rfl) (by kernel_rfl) (fun _ _ _ h => h) rfl (fun w' hw' => er_mv _ rfl (.slice (some ⟨b1, o1, none⟩) n c) rfl) hS ?_
          simp only [Act.put, List.setIfInBounds_toArray, List.set_cons_zero, List.set_cons_succ]
          refine d_take 5 87 rfl rfl (by kernel_rfl) (by kernel_rfl) (by kernel_rfl) (fun _ _ _ h => h) rfl (fun w' hw' => er_mv _ rfl (.int .i64 (k : Int)) rfl) hS ?_
          simp only [Act.put, List.setIfInBounds_toArray, List.set_cons_zero, List.set_cons_succ]
          refine d_take 6 88 rfl rfl (by kernel_rfl) (by kernel_rfl) (by kernel_rfl) (fun _ _ _ h => h) rfl (fun w' hw' => er_ixN _ _ rfl b1 o1 k n c rfl rfl hlt) hS ?_
          simp only [Act.put, List.setIfInBounds_toArray, List.set_cons_zero, List.set_cons_succ]
          refine d_take 7 89 rfl rfl (by kernel_rfl) (by kernel_rfl) (by kernel_rfl) (fun _ _ _ h => h) rfl (fun w' hw' => er_ldX 25 _ rfl (.pointer (some ⟨b1, o1 + k * 7, none⟩)) (.agg (x.val da dc)) rfl (LA2.out w' hw')) hS ?_
          simp only [Act.put, List.setIfInBounds_toArray, List.set_cons_zero, List.set_cons_succ]
          refine d_call 8 90 (by kernel_rfl) rfl rfl rfl (er_cSame _ _ _ _ rfl (.agg (x.val ya yc)) (.agg (x.val da dc)) rfl rfl) (CS1.out _ hS) (fun w' hS => ?_)
          simp only [Act.put, List.setIfInBounds_toArray, List.set_cons_zero, List.set_cons_succ]
          refine d_take 9 91 rfl rfl (by kernel_rfl) (by kernel_rfl) (by kernel_rfl) (fun _ _ _ h => h) rfl (fun w' hw' => er_not _ rfl true rfl) hS ?_
          simp only [Act.put, List.setIfInBounds_toArray, List.set_cons_zero, List.set_cons_succ]
          refine d_take 10 92 rfl rfl (by kernel_rfl) (by kernel_rfl) (by kernel_rfl) (fun _ _ _ h => h) rfl (fun w' hw' => er_pk _ _ _ rfl false (.bool false) rfl rfl) hS ?_
          simp only [Act.put, List.setIfInBounds_toArray, List.set_cons_zero, List.set_cons_succ]
          refine d_take 11 93 rfl rfl (by kernel_rfl) (by kernel_rfl) (by kernel_rfl) (fun _ _ _ h => h) rfl (fun w' hw' => er_mv _ rfl (.bool false) rfl) hS ?_
          simp only [Act.put, List.setIfInBounds_toArray, List.set_cons_zero, List.set_cons_succ]
          refine d_take 12 94 rfl rfl (by kernel_rfl) (by kernel_rfl) (by kernel_rfl) (fun _ _ _ h => h) rfl (fun w' hw' => er_mv _ rfl (.bool false) rfl) hS ?_
          simp only [Act.put, List.setIfInBounds_toArray, List.set_cons_zero, List.set_cons_succ]
          refine d_take 13 95 rfl rfl (by kernel_rfl) (by kernel_rfl) (by kernel_rfl) (fun _ _ _ h => h) rfl (fun w' hw' => er_ldX 25 _ rfl (.pointer (some ⟨w.heap.size, 0, none⟩)) (.agg (y.val ea ec)) rfl (LB2.out w' hw')) hS ?_
          simp only [Act.put, List.setIfInBounds_toArray, List.set_cons_zero, List.set_cons_succ]
          refine d_call 14 96 (by kernel_rfl) rfl rfl rfl (er_cGoL _ _ rfl (.agg (y.val ea ec)) rfl) (CG.out _ hS) (fun w' hS => ?_)
          simp only [Act.put, List.setIfInBounds_toArray, List.set_cons_zero, List.set_cons_succ]
          refine d_take 15 97 rfl rfl (by kernel_rfl) (by kernel_rfl) (by kernel_rfl) (fun _ _ _ h => h) rfl (fun w' hw' => er_neB _ _ rfl false rfl rfl) hS ?_
          simp only [Act.put, List.setIfInBounds_toArray, List.set_cons_zero, List.set_cons_succ]
          refine d_take 16 98 rfl rfl (by kernel_rfl) (by kernel_rfl) (by kernel_rfl) (fun _ _ _ h => h) rfl (fun w' hw' => er_pk _ _ _ rfl false (.bool false) rfl rfl) hS ?_
          simp only [Act.put, List.setIfInBounds_toArray, List.set_cons_zero, List.set_cons_succ]
          refine d_take 17 99 rfl rfl (by kernel_rfl) (by kernel_rfl) (by kernel_rfl) (fun _ _ _ h => h) rfl (fun w' hw' => er_mv _ rfl (.bool false) rfl) hS ?_
          simp only [Act.put, List.setIfInBounds_toArray, List.set_cons_zero, List.set_cons_succ]
          refine d_take 18 100 rfl rfl (by kernel_rfl) (by kernel_rfl) (by kernel_rfl) (fun _ _ _ h => h) rfl (fun w' hw' => er_mv _ rfl (.bool false) rfl) hS ?_
          simp only [Act.put, List.setIfInBounds_toArray, List.set_cons_zero, List.set_cons_succ]
          refine d_take 19 101 rfl rfl (by kernel_rfl) (by kernel_rfl) (by kernel_rfl) (fun _ _ _ h => h) rfl (fun w' hw' => er_mv _ rfl (.bool false) rfl) hS ?_
          simp only [Act.put, List.setIfInBounds_toArray, List.set_cons_zero, List.set_cons_succ]
          refine d_skip 20 102 rfl rfl (by kernel_rfl) (by kernel_rfl) (by kernel_rfl) (fun _ _ _ h => h) rfl hS ?_
          simp only [Act.put, List.setIfInBounds_toArray, List.set_cons_zero, List.set_cons_succ]
          refine d_skip 21 103 rfl rfl (by kernel_rfl) (by kernel_rfl) (by kernel_rfl) (fun _ _ _ h => h) rfl hS ?_
          simp only [Act.put, List.setIfInBounds_toArray, List.set_cons_zero, List.set_cons_succ]
          refine d_skip 22 104 rfl rfl (by kernel_rfl) (by kernel_rfl) (by kernel_rfl) (fun _ _ _ h => h) rfl hS ?_
          simp only [Act.put, List.setIfInBounds_toArray, List.set_cons_zero, List.set_cons_succ]
          refine d_take 23 105 rfl rfl (by kernel_rfl) (by kernel_rfl) (by kernel_rfl) (fun _ _ _ h => h) rfl (fun w' hw' => er_pk _ _ _ rfl false (.bool false) rfl rfl) hS ?_
          simp only [Act.put, List.setIfInBounds_toArray, List.set_cons_zero, List.set_cons_succ]
          refine d_take 24 106 rfl rfl (by kernel_rfl) (by kernel_rfl) (by kernel_rfl) (fun _ _ _ h => h) rfl (fun w' hw' => er_mv _ rfl (.slice (some ⟨b1, o1, none⟩) n c) rfl) hS ?_
          simp only [Act.put, List.setIfInBounds_toArray, List.set_cons_zero, List.set_cons_succ]
          refine d_take 25 107 rfl rfl (by kernel_rfl) (by kernel_rfl) (by kernel_rfl) (fun _ _ _ h => h) rfl (fun w' hw' => er_mv _ rfl (.int .i64 (k : Int)) rfl) hS ?_
          simp only [Act.put, List.setIfInBounds_toArray, List.set_cons_zero, List.set_cons_succ]
          refine d_take 26 108 rfl rfl (by kernel_rfl) (by kernel_rfl) (by kernel_rfl) (fun _ _ _ h => h) rfl (fun w' hw' => er_ixN _ _ rfl b1 o1 k n c rfl rfl hlt) hS ?_
          simp only [Act.put, List.setIfInBounds_toArray, List.set_cons_zero, List.set_cons_succ]
          refine d_take 27 109 rfl rfl (by kernel_rfl) (by kernel_rfl) (by kernel_rfl) (fun _ _ _ h => h) rfl (fun w' hw' => er_ldX 25 _ rfl (.pointer (some ⟨b1, o1 + k * 7, none⟩)) (.agg (x.val da dc)) rfl (LA2.out w' hw')) hS ?_
          simp only [Act.put, List.setIfInBounds_toArray, List.set_cons_zero, List.set_cons_succ]
          refine d_take 28 110 rfl rfl (by kernel_rfl) (by kernel_rfl) (by kernel_rfl) (fun _ _ _ h => h) rfl (fun w' hw' => er_ldX 25 _ rfl (.pointer (some ⟨w.heap.size, 0, none⟩)) (.agg (y.val ea ec)) rfl (LB2.out w' hw')) hS ?_
          simp only [Act.put, List.setIfInBounds_toArray, List.set_cons_zero, List.set_cons_succ]
          refine d_call 29 111 (by kernel_rfl) rfl rfl rfl (er_cSame _ _ _ _ rfl (.agg (x.val da dc)) (.agg (y.val ea ec)) rfl rfl) (CS2.out _ hS) (fun w' hS => ?_)
          simp only [Act.put, List.setIfInBounds_toArray, List.set_cons_zero, List.set_cons_succ]
          refine d_take 30 112 rfl rfl (by kernel_rfl) (by kernel_rfl) (by kernel_rfl) (fun _ _ _ h => h) rfl (fun w' hw' => er_neB _ _ rfl false rfl rfl) hS ?_
          simp only [Act.put, List.setIfInBounds_toArray, List.set_cons_zero, List.set_cons_succ]
          refine d_take 31 113 rfl rfl (by kernel_rfl) (by kernel_rfl) (by kernel_rfl) (fun _ _ _ h => h) rfl (fun w' hw' => er_pk _ _ _ rfl false (.bool false) rfl rfl) hS ?_
          simp only [Act.put, List.setIfInBounds_toArray, List.set_cons_zero, List.set_cons_succ]
          refine wpAnyH_done (by kernel_rfl) ?_ _
          have H11 := hid hS
          clear hS CS1 CS2 CG LE2 LA2 LB2
          go_wp2
          refine ⟨⟨k + 1, by omega, by rw [hA2]; try simp, by go_num, H29.out.trans (H10.out.trans H11.out (fun _ e => e.elim)) (fun _ e => e.elim)⟩, ?_⟩
          simp [intOf]; omega
    · have hltz : ¬ (k : Int) < (n : Int) := by omega
      obtain rfl : k = n := by omega
      clear hlt hk
      have HK2 := hid (HK1.out.trans HK.out (fun _ e => e.elim))
      by_cases hall : ∀ x ∈ xs, x.Go
      rotate_left
      · have c6 := encode_no _ a k c xs wr (HX.out wr HK.out) hall
        rw [allB_all (by omega), decide_eq_false hall]
        clear hall
        go_wp2_with (go_at_call 10; refine c6.mono ?_; rintro r w6 ⟨rfl, k6⟩; have H6 := hid k6; clear k6 c6)
        go_ret
        exact ⟨rfl, HK2.out.trans H6.out (fun _ e => e.elim)⟩
      · have hsm := HSH.out (fun x hx => by have := (hall x hx).2.2.2.2.2.2.2.2; omega)
        have c6 := encode_yes _ a k c xs wr (HX.out wr HK.out) hall (by omega)
        have HAL := hid (And.intro hall hsm)
        rw [allB_all (by omega), decide_eq_true hall]
        clear hall
        go_upto_region 19 with (go_at_call 10; refine c6.mono ?_; rintro r w6 ⟨a6, n6, c6', rfl, ho6, hl6, k6⟩; have H6 := hid (And.intro ho6 (And.intro hl6 k6)); clear ho6 hl6 k6 c6)
        obtain ⟨M, hM⟩ : ∃ M, (sealed 4 (encB xs)).length = M + 1 := ⟨(encB xs).length + 11, by rw [sealed_length]⟩
        obtain ⟨g6, c7, e6, _, _, hn7, hc7, _⟩ := own_at H6.out.1 (by omega)
        injection e6 with e61 e62 e63
        subst e61 e62 e63
        obtain ⟨a8, c8, e8, hbs⟩ := Bs.of_owns H6.out.1 (sealed_lt (by decide) H6.out.2.1)
        injection e8 with e81 e82 e83
        subst e81 e83
        clear e82
        have hen : (encB xs).length ≤ 150000 := by rw [encB_len]; omega
        have c9 := decode_yes _ _ _ _ xs w6 hbs hsm (fun x hx => ⟨HAL.out.1 x hx, HF.out.1 x hx⟩) H6.out.2.1
        have c9 : Calls Tryz.prog 11 #[.slice (some ⟨g6, 0, none⟩) (sealed 4 (encB xs)).length c6'] w6 fun r w' => (∃ a' c', r = .returned (.tuple #[.slice a' k c', .int .i64 0]) ∧ Il w' An a' k c' xs) ∧ Kept No w6 w' := c9.mono (by
          rintro r w' ⟨⟨a', c', h1, h2⟩, h3⟩
          rw [hxl] at h1 h2
          exact ⟨⟨a', c', h1, h2⟩, h3⟩)
        have HDC : Hid (∀ W, Kept No w6 W → Calls Tryz.prog 11 #[.slice (some ⟨g6, 0, none⟩) M c6'] W fun r w' => r = .returned (.tuple #[.slice none 0 0, .int .i64 20]) ∧ Kept No w6 w') := fun W q => (decode_cut _ _ M c6' (encB xs) W hen (by have := (hbs.kept q (fun _ _ e => e)).take M (by omega); rwa [show (sealed 4 (encB xs)).length - 1 = M from by omega])).mono (fun r w' h => ⟨h.1, q.trans h.2 (fun _ e => e.elim)⟩)
        have HDS : Hid (∀ W a' c', Kept No w6 W → Il W An a' k c' xs → Calls Tryz.prog 12 #[.slice a' k c', .slice a k c] W fun r w' => r = .returned (.bool true) ∧ Kept No w6 w') := fun W a' c' q il => (sameAll_any W il (HX.out W (HK.out.trans (H6.out.2.2.trans q (fun _ e => e.elim)) (fun _ e => e.elim)))).mono (fun r w' h => ⟨by rw [h.1, decide_eq_true rfl], q.trans h.2 (fun _ e => e.elim)⟩)
        have H62 := hid (HK2.out.trans H6.out.2.2 (fun _ e => e.elim))
        clear hbs hen H6
        rw [hM] at hn7 c9 ⊢
        have hN0 : (((M + 1 : Nat) : Int) == 0) = false := by simp; omega
        have HW : Hid (wrap64 (((M + 1 : Nat) : Int) - 1) = (M : Int)) := show wrap64 (((M + 1 : Nat) : Int) - 1) = (M : Int) from by unfold wrap64; omega
        have HMN : Hid (M ≤ M + 1) := Nat.le_succ M
        have hM2 : (sealed 4 (encB xs)).length = 0 ∨ True := .inr trivial
        clear hM hM2 hsm
        clear HX HY HE HF HLB HSH HAL HK HK1 HK2
        generalize M + 1 = N at *
        go_upto_region 20 with (go_at_call 11; refine c9.mono ?_; rintro r w7 ⟨⟨a9, c9', rfl, il9⟩, k7⟩; have c10 := HDS.out w7 a9 c9' k7 il9; have H7 := hid k7; clear k7 il9 c9 HDS)
        go_upto_region 22 with (go_at_call 12; refine c10.mono ?_; rintro r w8 ⟨rfl, k8⟩; have c11 := HDC.out w8 k8; have H8 := hid k8; clear k8 c10 HDC)
        go_wp2_with (first
          | (refine l_take 154 rfl rfl (er_sub1 (.tmp 153) _ rfl (N : Int) 1 (M : Int) rfl rfl HW.out) ?_)
          | (refine l_take 155 rfl rfl (er_slB (.tmp 151) (.tmp 154) rfl (some ⟨g6, 0, none⟩) N c6' M rfl rfl HMN.out hn7 (fun e => by cases e)) ?_)
          | (go_at_call 11; refine c11.mono ?_; rintro r w9 ⟨rfl, k9⟩; have H9 := hid k9; clear k9 c11))
        go_ret
        exact ⟨rfl, H62.out.trans H9.out (fun _ e => e.elim)⟩
end Go.Proofs.YtjhhldgbllbbhaaGreatDoor
