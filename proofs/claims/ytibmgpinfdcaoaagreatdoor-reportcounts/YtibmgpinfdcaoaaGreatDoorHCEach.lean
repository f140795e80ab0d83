/-
  One text: CEach.
-/
import Derived.Test.YtibmgpinfdcaoaaGreatDoorHCFind
import Derived.BigQuiet
import Derived.Deep.DeepCutAuto
namespace Go.Proofs.YtibmgpinfdcaoaaGreatDoor
open Go.RowKit
set_option linter.unusedVariables false
set_option maxRecDepth 100000

/-- the first error of the first rows -/
def rowsF (e : Nat → Int) : Nat → Int
  | 0 => 0
  | m + 1 => if rowsF e m = 0 then e m else rowsF e m
/-- the first thing at which there is an error -/
def eachF (r : Nat → Int) (first : Int) : Nat → Option (Int × Int)
  | 0 => none
  | n + 1 => match eachF r first n with
    | some p => some p
    | none => if r n = 0 then none else some (r n, first + n)
theorem rowsF_hit {e : Nat → Int} {j : Nat} (h : rowsF e j = 0) (he : e j ≠ 0) : ∀ m, j < m → rowsF e m = e j
  | 0, hm => by omega
  | m + 1, hm => by
    rcases Nat.lt_or_eq_of_le (Nat.lt_succ_iff.1 hm) with h1 | h1
    · have ih := rowsF_hit h he m h1
      rw [rowsF, ih, if_neg he]
    · subst h1; rw [rowsF, if_pos h]
theorem rowsF_miss {e : Nat → Int} {j : Nat} (h : rowsF e j = 0) (he : e j = 0) : rowsF e (j + 1) = 0 := by rw [rowsF, if_pos h]; exact he
theorem eachF_hit {r : Nat → Int} {first : Int} {k : Nat} (h : eachF r first k = none) (he : r k ≠ 0) : ∀ n, k < n → eachF r first n = some (r k, first + k)
  | 0, hn => by omega
  | n + 1, hn => by
    rcases Nat.lt_or_eq_of_le (Nat.lt_succ_iff.1 hn) with h1 | h1
    · have ih := eachF_hit h he n h1
      rw [eachF, ih]
    · subst h1; rw [eachF, h]; simp [he]
theorem eachF_miss {r : Nat → Int} {first : Int} {k : Nat} (h : eachF r first k = none) (he : r k = 0) : eachF r first (k + 1) = none := by rw [eachF, h]; simp [he]

theorem wp_region_kept {id : Nat} {Q : Exit → Act → World → Prop} {a : Act} {w : World} {l : List Oper} (w0 : World) (hm : Tryz.prog.follows .mixedOrders = true) (hB : Region.lexB .any l.toArray = true) (hw : Kept No w0 w)
    (h : wpQuiet Tryz.prog l.toArray (fun w' => Kept No w0 w') (fun a' => ∀ w', Kept No w0 w' → Q .normal a' w') l a) : (Code.region id l.toArray true).wp Tryz.prog Q a w :=
  wp_region_quiet (C := fun w' => Kept No w0 w') hm hB (hw.drewN 1) (by simpa using h)
section
variable {C : World → Prop} {a : Act} {o : Oper} {K : Act → Prop}
theorem quiet_val' {v : Value} (h : ∀ w, C w → (execOp a.eval o).run Tryz.prog w = .ok (.value v) w) (hk : K (a.put o.dst v)) : o.quiet Tryz.prog a C K :=
  ⟨v, fun w hw => by unfold Oper.quietAt; rw [h w hw]; exact ⟨rfl, rfl⟩, hk⟩
theorem quiet_call' {f : FuncId} {args : Array Value} {v : Value} (hrun : ∀ w, (execOp a.eval o).run Tryz.prog w = .ok (.enter f args) w) (hc : ∀ w, C w → Calls Tryz.prog f args w fun e w'' => e = .returned v ∧ C w'') (hk : K (a.put o.dst v)) : o.quiet Tryz.prog a C K :=
  ⟨v, fun w hw => by unfold Oper.quietAt; rw [hrun w]; exact ⟨rfl, hc w hw⟩, hk⟩
variable {w : World}
theorem er_mv (x : Operand) (ho : o.op = .move x) (v : Value) (hx : a.eval x = v) : (execOp a.eval o).run Tryz.prog w = .ok (.value v) w := by simp only [execOp, ho, hx]; rfl
theorem er_as (x : Operand) (ho : o.op = .assign x) (v : Value) (hx : a.eval x = v) : (execOp a.eval o).run Tryz.prog w = .ok (.value v) w := by simp only [execOp, ho, hx]; rfl
theorem er_ld (t : TypeId) (x : Operand) (ho : o.op = .load t x) (pv v : Value) (hx : a.eval x = pv) (hr : (Instr.loadAt t pv).run Tryz.prog w = .ok v w) : (execOp a.eval o).run Tryz.prog w = .ok (.value v) w := by
  simp only [execOp, ho, hx, Sem.run_bind, hr]; rfl
end

/-- a row of a table: its error and its three functions -/
structure Rw where
  err : Int
  f1 : Value
  f2 : Value
  f3 : Value
  h1 : f1.oneCell' = true
  h2 : f2.oneCell' = true
  h3 : f3.oneCell' = true
def Rw.v (r : Rw) : Value := .agg #[.int .i64 r.err, r.f1, r.f2, r.f3]
/-- a table of m rows in the block tb -/
def Tb (w : World) (tb m : Nat) (rs : Nat → Rw) : Prop :=
  ∀ j, j < m → w.cell? ⟨tb, j * 4, none⟩ = some (.int .i64 (rs j).err) ∧ w.cell? ⟨tb, j * 4 + 1, none⟩ = some (rs j).f1 ∧ w.cell? ⟨tb, j * 4 + 2, none⟩ = some (rs j).f2 ∧ w.cell? ⟨tb, j * 4 + 3, none⟩ = some (rs j).f3
theorem Tb.kept {w w' : World} {tb m : Nat} {rs : Nat → Rw} (h : Tb w tb m rs) (k : Kept No w w') : Tb w' tb m rs := fun j hj => by
  obtain ⟨h0, h1, h2, h3⟩ := h j hj
  exact ⟨k.cell h0 (fun h => h), k.cell h1 (fun h => h), k.cell h2 (fun h => h), k.cell h3 (fun h => h)⟩

/-- a server -/
structure Srv where
  p : Int
  b : Int
  o : Int
  q : Int
def I6 (x : Int) : Prop := -9223372036854775808 ≤ x ∧ x ≤ 9223372036854775807
def Srv.ok (x : Srv) : Prop := I6 x.p ∧ I6 x.b ∧ I6 x.o ∧ I6 x.q
def Srv.v (x : Srv) : Value := .agg #[.int .i64 x.p, .int .i64 x.b, .int .i64 x.o, .int .i64 x.q]
/-- a list of servers in memory -/
structure Sv (w : World) (F : Nat → Prop) (a : Option Addr) (n c : Nat) (xs : List Srv) : Prop where
  len : xs.length = n
  cap : n ≤ c
  max : c ≤ 9223372036854775807
  nil : a = none → c = 0
  at' : ∀ i x, xs[i]? = some x → x.ok ∧ ∃ b o, a = some ⟨b, o, none⟩ ∧ F b ∧ w.cell? ⟨b, o + i * 4, none⟩ = some (.int .i64 x.p) ∧ w.cell? ⟨b, o + i * 4 + 1, none⟩ = some (.int .i64 x.b) ∧ w.cell? ⟨b, o + i * 4 + 2, none⟩ = some (.int .i64 x.o) ∧ w.cell? ⟨b, o + i * 4 + 3, none⟩ = some (.int .i64 x.q)
theorem Sv.kept {w w' : World} {F G : Nat → Prop} {a : Option Addr} {n c : Nat} {xs : List Srv} (h : Sv w F a n c xs) (k : Kept G w w') (hd : ∀ b, F b → ¬ G b) : Sv w' F a n c xs :=
  ⟨h.len, h.cap, h.max, h.nil, fun i x hx => by obtain ⟨ok, b, o, e, hb, h0, h1, h2, h3⟩ := h.at' i x hx; exact ⟨ok, b, o, e, hb, k.cell h0 (hd b hb), k.cell h1 (hd b hb), k.cell h2 (hd b hb), k.cell h3 (hd b hb)⟩⟩
theorem Sv.keep {w w' : World} {F : Nat → Prop} {a : Option Addr} {n c : Nat} {xs : List Srv} (h : Sv w F a n c xs) (k : Kept No w w') : Sv w' F a n c xs := h.kept k (fun _ _ h => h)
theorem Sv.take {w : World} {F : Nat → Prop} {a : Option Addr} {n c : Nat} {xs : List Srv} (h : Sv w F a n c xs) (k : Nat) (hk : k ≤ n) : Sv w F a k c (xs.take k) :=
  ⟨by rw [List.length_take, h.len]; omega, by have := h.cap; omega, h.max, h.nil, fun i x hx => h.at' i x (by
    rw [List.getElem?_take] at hx; split at hx; exact hx; cases hx)⟩

theorem er_cutSv {w : World} {a : Act} {o : Oper} (x y : Operand) (ho : o.op = .slice 22 x none (some y) none) (b off n c k : Nat) (hk : k ≤ c) (hc : c ≤ 9223372036854775807) (hx : a.eval x = .slice (some ⟨b, off, none⟩) n c) (hy : a.eval y = .int .i64 k) : (execOp a.eval o).run Tryz.prog w = .ok (.value (.slice (some ⟨b, off, none⟩) k c)) w := by
  simp only [execOp, ho, Option.map_none, Option.map_some, hx, hy]
  simp [go_sem, hk]
  try omega
theorem quiet_findsSv {C : World → Prop} {a : Act} {o : Oper} {K : Act → Prop} (x0 x1 x2 : Operand) (ho : o.op = .call { callee := .value (.func 84), args := #[x0, x1, x2], argTypes := #[138, 40, 22] }) (v0 v1 v2 v : Value) (h0 : a.eval x0 = v0) (h1 : a.eval x1 = v1) (h2 : a.eval x2 = v2)
    (hc : ∀ w, C w → Calls Tryz.prog 84 #[v0, v1, v2] w fun e w'' => e = .returned v ∧ C w'') (hk : K (a.put o.dst v)) : o.quiet Tryz.prog a C K :=
  quiet_call' (f := 84) (args := #[v0, v1, v2]) (fun w => by subst h0 h1 h2; simp [execOp, ho, go_sem, Act.eval]) hc hk

set_option maxHeartbeats 16000000 in
theorem eachSv (F : Nat → Prop) (first : Int) (a : Option Addr) (n c : Nat) (xs : List Srv) (tb m mc : Nat) (rs : Nat → Rw) (E : Nat → Nat → Int) (w : World) (h : Sv w F a n c xs) (hm : m ≤ 1000) (hT : Tb w tb m rs) (hf : 0 ≤ first) (hf2 : first ≤ 1)
    (hE : ∀ i j w', i < n → j < m → Kept No w w' → Calls Tryz.prog 84 #[(rs j).v, (xs.getD i ⟨0, 0, 0, 0⟩).v, .slice a i c] w' fun e w'' => e = .returned (.int .i64 (E i j)) ∧ Kept No w' w'') :
    Calls Tryz.prog 65 #[.slice a n c, .int .i64 first, .slice (some ⟨tb, 0, none⟩) m mc] w fun e w' => e = .returned (fv (eachF (fun i => rowsF (E i) m) first n)) ∧ Kept No w w' := by
  have hn : n ≤ 9223372036854775807 := Nat.le_trans h.cap h.max
  have H : Hid (Sv w F a n c xs) := h
  have HT : Hid (Tb w tb m rs) := hT
  have HE : Hid (∀ i j w', i < n → j < m → Kept No w w' → Calls Tryz.prog 84 #[(rs j).v, (xs.getD i ⟨0, 0, 0, 0⟩).v, .slice a i c] w' fun e w'' => e = .returned (.int .i64 (E i j)) ∧ Kept No w' w'') := hE
  clear h hT hE
  go_enter Tryz.func65, Tryz.ntmps65
  go_wp2
  go_loopw [14] (fun x wr => ∃ k : Nat, k ≤ n ∧ x = .int .i64 k ∧ Kept No w wr ∧ eachF (fun i => rowsF (E i) m) first k = none) (fun x _ => n - (intOf x).toNat)
  case atStart => exact ⟨0, by omega, rfl, Kept.refl No w, rfl⟩
  case round =>
    obtain ⟨k, hk, rfl, hkr, hno⟩ := hrel
    by_cases hlt : k < n
    · generalize wr = wo at *
      have hx : xs[k]? = some (xs.getD k ⟨0, 0, 0, 0⟩) := by rw [List.getD, List.getElem?_eq_getElem (by rw [H.out.len]; exact hlt)]; rfl
      obtain ⟨hok, b, o, rfl, hb, c0, c1, c2, c3⟩ := (H.out.keep hkr).at' k _ hx
      have HW : Hid (Kept No w (wo.alloc (.cells #[.int .i64 (xs.getD k ⟨0, 0, 0, 0⟩).p, .int .i64 (xs.getD k ⟨0, 0, 0, 0⟩).b, .int .i64 (xs.getD k ⟨0, 0, 0, 0⟩).o, .int .i64 (xs.getD k ⟨0, 0, 0, 0⟩).q] 40))) := hkr.alloc _
      have HEk : Hid (∀ j w', j < m → Kept No w w' → Calls Tryz.prog 84 #[(rs j).v, (xs.getD k ⟨0, 0, 0, 0⟩).v, .slice (some ⟨b, o, none⟩) k c] w' fun e w'' => e = .returned (.int .i64 (E k j)) ∧ Kept No w' w'') := fun j w' hj hw => HE.out k j w' hlt hj hw
      have HNO : Hid (eachF (fun i => rowsF (E i) m) first k = none) := hno
      have hcap : k ≤ c := by have := H.out.cap; omega
      have hcm := H.out.max
      clear hno hx hok hkr
      generalize xs.getD k ⟨0, 0, 0, 0⟩ = y at *
      obtain ⟨yp, yb, yo, yq⟩ := y
      simp only at c0 c1 c2 c3 HW
      go_upto_region 4 with fail
      generalize hW1 : wo.alloc (.cells #[.int .i64 yp, .int .i64 yb, .int .i64 yo, .int .i64 yq] 40) = w1 at *
      have HCY : Hid (w1.cell? ⟨wo.heap.size, 0, none⟩ = some (.int .i64 yp) ∧ w1.cell? ⟨wo.heap.size, 1, none⟩ = some (.int .i64 yb) ∧ w1.cell? ⟨wo.heap.size, 2, none⟩ = some (.int .i64 yo) ∧ w1.cell? ⟨wo.heap.size, 3, none⟩ = some (.int .i64 yq)) := by subst hW1; exact ⟨by simp, by simp, by simp, by simp⟩
      clear hW1 c0 c1 c2 c3
      go_wp2
      go_loopw [21] (fun y wr => ∃ j : Nat, j ≤ m ∧ y = .int .i64 j ∧ Kept No w1 wr ∧ rowsF (E k) j = 0) (fun y _ => m - (intOf y).toNat)
      case atStart => exact ⟨0, by omega, rfl, Kept.refl No _, rfl⟩
      case round =>
        obtain ⟨j, hj, rfl, hkr2, hno2⟩ := hrel
        have HR0 : Hid (rowsF (E k) j = 0) := hno2
        clear hno2
        by_cases hjt : j < m
        · obtain ⟨t0, t1, t2, t3⟩ := ((HT.out.kept HW.out).kept hkr2) j hjt
          have HK2 : Hid (Kept No w1 (wr.alloc (.cells #[.int .i64 (rs j).err, (rs j).f1, (rs j).f2, (rs j).f3] 138))) := hkr2.alloc _
          have HRC : Hid (∀ w5, Kept No w1 w5 → (Instr.loadAt 40 (.pointer (some ⟨wo.heap.size, 0, none⟩))).run Tryz.prog w5 = .ok (.agg #[.int .i64 yp, .int .i64 yb, .int .i64 yo, .int .i64 yq]) w5) := fun w5 h5 => by
            obtain ⟨z0, z1, z2, z3⟩ := HCY.out
            have z0 := h5.cell z0 (fun h => h)
            have z1 := h5.cell z1 (fun h => h)
            have z2 := h5.cell z2 (fun h => h)
            have z3 := h5.cell z3 (fun h => h)
            simp [go_sem, z0, z1, z2, z3]
          have HRW : Hid (∀ w5, Kept No (wr.alloc (.cells #[.int .i64 (rs j).err, (rs j).f1, (rs j).f2, (rs j).f3] 138)) w5 → (Instr.loadAt 138 (.pointer (some ⟨wr.heap.size, 0, none⟩))).run Tryz.prog w5 = .ok (rs j).v w5) := fun w5 h5 => by
            have z0 := h5.cell (p := ⟨wr.heap.size, 0, none⟩) (v := .int .i64 (rs j).err) (by simp) (fun h => h)
            have z1 := h5.cell (p := ⟨wr.heap.size, 1, none⟩) (v := (rs j).f1) (by simp) (fun h => h)
            have z2 := h5.cell (p := ⟨wr.heap.size, 2, none⟩) (v := (rs j).f2) (by simp) (fun h => h)
            have z3 := h5.cell (p := ⟨wr.heap.size, 3, none⟩) (v := (rs j).f3) (by simp) (fun h => h)
            simp [go_sem, z0, z1, z2, z3, Rw.v]
          have HEj : Hid (∀ w', Kept No w1 w' → Calls Tryz.prog 84 #[(rs j).v, .agg #[.int .i64 yp, .int .i64 yb, .int .i64 yo, .int .i64 yq], .slice (some ⟨b, o, none⟩) k c] w' fun e w'' => e = .returned (.int .i64 (E k j)) ∧ Kept No w' w'') := fun w' hw => HEk.out j w' hjt (HW.out.trans hw (fun _ h => h.elim))
          have HW0 : Hid (Kept No w w1) := HW.out
          clear hkr2 HW HEk HT HE H HCY
          have hrc := HRC.out
          have s1 : ∀ (ad : Addr) (mo : Mode) (W : World), (store ad (rs j).f1 mo).run Tryz.prog W = stored Tryz.prog W ad (rs j).f1 mo := fun ad mo W => run_store _ _ _ _ _ (rs j).h1
          have s2 : ∀ (ad : Addr) (mo : Mode) (W : World), (store ad (rs j).f2 mo).run Tryz.prog W = stored Tryz.prog W ad (rs j).f2 mo := fun ad mo W => run_store _ _ _ _ _ (rs j).h2
          have s3 : ∀ (ad : Addr) (mo : Mode) (W : World), (store ad (rs j).f3 mo).run Tryz.prog W = stored Tryz.prog W ad (rs j).f3 mo := fun ad mo W => run_store _ _ _ _ _ (rs j).h3
          go_upto_region 7 with fail
          clear t0 t1 t2 t3 hrc s1 s2 s3
          generalize hW2 : wr.alloc (.cells #[.int .i64 (rs j).err, (rs j).f1, (rs j).f2, (rs j).f3] 138) = w2 at *
          clear hW2
          refine wp_region_kept w2 (by kernel_rfl) (by kernel_rfl) (Kept.refl No w2) ?_
          refine BigFrame.wpQuiet_want rfl (fun K hK => ?_)
          refine quiet_val' (fun w5 hw5 => er_ld _ _ rfl _ _ rfl (HRW.out w5 hw5)) ?_
          refine hK _ ?_
          clear hK K
          simp only [Act.put, List.setIfInBounds_toArray, List.set_cons_zero, List.set_cons_succ]
          refine BigFrame.wpQuiet_want rfl (fun K hK => ?_)
          refine quiet_val' (fun w5 hw5 => er_ld _ _ rfl _ _ rfl (HRC.out w5 (HK2.out.trans hw5 (fun _ h => h.elim)))) ?_
          refine hK _ ?_
          clear hK K
          simp only [Act.put, List.setIfInBounds_toArray, List.set_cons_zero, List.set_cons_succ]
          refine BigFrame.wpQuiet_want rfl (fun K hK => ?_)
          refine quiet_val' (fun w5 hw5 => er_mv _ rfl (.slice (some ⟨b, o, none⟩) n c) rfl) ?_
          refine hK _ ?_
          clear hK K
          simp only [Act.put, List.setIfInBounds_toArray, List.set_cons_zero, List.set_cons_succ]
          refine BigFrame.wpQuiet_want rfl (fun K hK => ?_)
          refine quiet_val' (fun w5 hw5 => er_mv _ rfl (.int .i64 k) rfl) ?_
          refine hK _ ?_
          clear hK K
          simp only [Act.put, List.setIfInBounds_toArray, List.set_cons_zero, List.set_cons_succ]
          refine BigFrame.wpQuiet_want rfl (fun K hK => ?_)
          refine quiet_val' (fun w5 hw5 => er_cutSv _ _ rfl b o n c k hcap hcm rfl rfl) ?_
          refine hK _ ?_
          clear hK K
          simp only [Act.put, List.setIfInBounds_toArray, List.set_cons_zero, List.set_cons_succ]
          refine BigFrame.wpQuiet_want rfl (fun K hK => ?_)
          refine quiet_findsSv _ _ _ rfl (rs j).v (.agg #[.int .i64 yp, .int .i64 yb, .int .i64 yo, .int .i64 yq]) (.slice (some ⟨b, o, none⟩) k c) (.int .i64 (E k j)) rfl rfl rfl (fun w5 hw5 => (HEj.out w5 (HK2.out.trans hw5 (fun _ h => h.elim))).mono (fun e w6 he => ⟨he.1, hw5.trans he.2 (fun _ h => h.elim)⟩)) ?_
          refine hK _ ?_
          clear hK K
          simp only [Act.put, List.setIfInBounds_toArray, List.set_cons_zero, List.set_cons_succ]
          refine BigFrame.wpQuiet_want rfl (fun K hK => ?_)
          refine quiet_val' (fun w5 hw5 => er_as _ rfl (.int .i64 (E k j)) rfl) ?_
          refine hK _ ?_
          clear hK K
          simp only [Act.put, List.setIfInBounds_toArray, List.set_cons_zero, List.set_cons_succ]
          refine wpQuiet_nil ?_
          intro w6 hw6
          have HW6 : Hid (Kept No w1 w6) := HK2.out.trans hw6 (fun _ h => h.elim)
          clear hw6 HRC HRW HEj HK2
          by_cases he : E k j = 0
          · have HR1 : Hid (rowsF (E k) (j + 1) = 0) := rowsF_miss HR0.out he
            have HE0 : Hid (E k j = 0) := he
            go_wp2
            go_roundw
            case rel => exact ⟨j + 1, by omega, by go_num, HW6.out, HR1.out⟩
            case measure => simp [intOf]; omega
          · have HF : Hid (eachF (fun i => rowsF (E i) m) first n = some (E k j, first + k)) := by
              have e1 := rowsF_hit HR0.out he m hjt
              have e2 := eachF_hit (r := fun i => rowsF (E i) m) HNO.out (by simp only [e1]; exact he) n hlt
              have e3 : eachF (fun i => rowsF (E i) m) first n = some (E k j, first + k) := by rw [e2]; simp only [e1]
              exact e3
            go_wp2
            go_ret
            exact ⟨by rw [HF.out]; rfl, HW0.out.trans HW6.out (fun _ h => h.elim)⟩
        · have hje : j = m := by omega
          subst hje
          have HN1 : Hid (eachF (fun i => rowsF (E i) j) first (k + 1) = none) := eachF_miss HNO.out HR0.out
          have HW6 : Hid (Kept No w wr) := HW.out.trans hkr2 (fun _ h => h.elim)
          clear hkr2 HW HEk HT HE H HCY
          go_wp2
          go_roundw
          case rel => exact ⟨k + 1, by omega, by go_num, HW6.out, HN1.out⟩
          case measure => simp [intOf]; omega
    · have hke : k = n := by omega
      subst hke
      have HF : Hid (eachF (fun i => rowsF (E i) m) first k = none) := hno
      have HW6 : Hid (Kept No w wr) := hkr
      clear hno hkr
      go_wp2
      go_ret
      exact ⟨by rw [HF.out]; rfl, HW6.out⟩

end Go.Proofs.YtibmgpinfdcaoaaGreatDoor
