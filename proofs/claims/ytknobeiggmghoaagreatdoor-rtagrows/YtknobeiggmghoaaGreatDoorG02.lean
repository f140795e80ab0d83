/-
  One text: CEach, IDt.
-/
import Derived.Test.YtknobeiggmghoaaGreatDoorCFind
import Derived.BigQuiet
import Derived.Deep.DeepCutAuto
import Derived.Deep.MidRow
namespace Go.Proofs.YtknobeiggmghoaaGreatDoor
open Go.RowKit
set_option linter.unusedVariables false
set_option maxRecDepth 100000

/-- the first error of the first rows -/
def rowsF (e : Nat → Int) : Nat → Int
  | 0 => 0
  | m + 1 => if rowsF e m = 0 then e m else rowsF e m
/-- the first thing at which there is an error -/
def eachF (r : Nat → Int) (first : Int) : Nat → Option (Int × Int)
  | 0 => none
  | n + 1 => match eachF r first n with
    | some p => some p
    | none => if r n = 0 then none else some (r n, first + n)
theorem rowsF_hit {e : Nat → Int} {j : Nat} (h : rowsF e j = 0) (he : e j ≠ 0) : ∀ m, j < m → rowsF e m = e j
  | 0, hm => by omega
  | m + 1, hm => by
    rcases Nat.lt_or_eq_of_le (Nat.lt_succ_iff.1 hm) with h1 | h1
    · have ih := rowsF_hit h he m h1
      rw [rowsF, ih, if_neg he]
    · subst h1; rw [rowsF, if_pos h]
theorem rowsF_miss {e : Nat → Int} {j : Nat} (h : rowsF e j = 0) (he : e j = 0) : rowsF e (j + 1) = 0 := by rw [rowsF, if_pos h]; exact he
theorem eachF_hit {r : Nat → Int} {first : Int} {k : Nat} (h : eachF r first k = none) (he : r k ≠ 0) : ∀ n, k < n → eachF r first n = some (r k, first + k)
  | 0, hn => by omega
  | n + 1, hn => by
    rcases Nat.lt_or_eq_of_le (Nat.lt_succ_iff.1 hn) with h1 | h1
    · have ih := eachF_hit h he n h1
      rw [eachF, ih]
    · subst h1; rw [eachF, h]; simp [he]
theorem eachF_miss {r : Nat → Int} {first : Int} {k : Nat} (h : eachF r first k = none) (he : r k = 0) : eachF r first (k + 1) = none := by rw [eachF, h]; simp [he]

theorem wp_region_kept {id : Nat} {Q : Exit → Act → World → Prop} {a : Act} {w : World} {l : List Oper} (w0 : World) (hm : Tryz.prog.follows .mixedOrders = true) (hB : Region.lexB .any l.toArray = true) (hw : Kept No w0 w)
    (h : wpQuiet Tryz.prog l.toArray (fun w' => Kept No w0 w') (fun a' => ∀ w', Kept No w0 w' → Q .normal a' w') l a) : (Code.region id l.toArray true).wp Tryz.prog Q a w :=
  wp_region_quiet (C := fun w' => Kept No w0 w') hm hB (hw.drewN 1) (by simpa using h)
section
variable {C : World → Prop} {a : Act} {o : Oper} {K : Act → Prop}
theorem quiet_val' {v : Value} (h : ∀ w, C w → (execOp a.eval o).run Tryz.prog w = .ok (.value v) w) (hk : K (a.put o.dst v)) : o.quiet Tryz.prog a C K :=
  ⟨v, fun w hw => by unfold Oper.quietAt; rw [h w hw]; exact ⟨rfl, rfl⟩, hk⟩
theorem quiet_call' {f : FuncId} {args : Array Value} {v : Value} (hrun : ∀ w, (execOp a.eval o).run Tryz.prog w = .ok (.enter f args) w) (hc : ∀ w, C w → Calls Tryz.prog f args w fun e w'' => e = .returned v ∧ C w'') (hk : K (a.put o.dst v)) : o.quiet Tryz.prog a C K :=
  ⟨v, fun w hw => by unfold Oper.quietAt; rw [hrun w]; exact ⟨rfl, hc w hw⟩, hk⟩
variable {w : World}
theorem er_mv (x : Operand) (ho : o.op = .move x) (v : Value) (hx : a.eval x = v) : (execOp a.eval o).run Tryz.prog w = .ok (.value v) w := by simp only [execOp, ho, hx]; rfl
theorem er_as (x : Operand) (ho : o.op = .assign x) (v : Value) (hx : a.eval x = v) : (execOp a.eval o).run Tryz.prog w = .ok (.value v) w := by simp only [execOp, ho, hx]; rfl
theorem er_ld (t : TypeId) (x : Operand) (ho : o.op = .load t x) (pv v : Value) (hx : a.eval x = pv) (hr : (Instr.loadAt t pv).run Tryz.prog w = .ok v w) : (execOp a.eval o).run Tryz.prog w = .ok (.value v) w := by
  simp only [execOp, ho, hx, Sem.run_bind, hr]; rfl
end

/-- a row of a table: its error and its three functions -/
structure Rw where
  err : Int
  f1 : Value
  f2 : Value
  f3 : Value
  h1 : f1.oneCell' = true
  h2 : f2.oneCell' = true
  h3 : f3.oneCell' = true
def Rw.v (r : Rw) : Value := .agg #[.int .i64 r.err, r.f1, r.f2, r.f3]
/-- a table of m rows in the block tb -/
def Tb (w : World) (tb m : Nat) (rs : Nat → Rw) : Prop :=
  ∀ j, j < m → w.cell? ⟨tb, j * 4, none⟩ = some (.int .i64 (rs j).err) ∧ w.cell? ⟨tb, j * 4 + 1, none⟩ = some (rs j).f1 ∧ w.cell? ⟨tb, j * 4 + 2, none⟩ = some (rs j).f2 ∧ w.cell? ⟨tb, j * 4 + 3, none⟩ = some (rs j).f3
theorem Tb.kept {w w' : World} {tb m : Nat} {rs : Nat → Rw} (h : Tb w tb m rs) (k : Kept No w w') : Tb w' tb m rs := fun j hj => by
  obtain ⟨h0, h1, h2, h3⟩ := h j hj
  exact ⟨k.cell h0 (fun h => h), k.cell h1 (fun h => h), k.cell h2 (fun h => h), k.cell h3 (fun h => h)⟩

/-- a server -/
structure Srv where
  p : Int
  b : Int
  o : Int
  q : Int
def I6 (x : Int) : Prop := -9223372036854775808 ≤ x ∧ x ≤ 9223372036854775807
def Srv.ok (x : Srv) : Prop := I6 x.p ∧ I6 x.b ∧ I6 x.o ∧ I6 x.q
def Srv.v (x : Srv) : Value := .agg #[.int .i64 x.p, .int .i64 x.b, .int .i64 x.o, .int .i64 x.q]
/-- a list of servers in memory -/
structure Sv (w : World) (F : Nat → Prop) (a : Option Addr) (n c : Nat) (xs : List Srv) : Prop where
  len : xs.length = n
  cap : n ≤ c
  max : c ≤ 9223372036854775807
  nil : a = none → c = 0
  at' : ∀ i x, xs[i]? = some x → x.ok ∧ ∃ b o, a = some ⟨b, o, none⟩ ∧ F b ∧ w.cell? ⟨b, o + i * 4, none⟩ = some (.int .i64 x.p) ∧ w.cell? ⟨b, o + i * 4 + 1, none⟩ = some (.int .i64 x.b) ∧ w.cell? ⟨b, o + i * 4 + 2, none⟩ = some (.int .i64 x.o) ∧ w.cell? ⟨b, o + i * 4 + 3, none⟩ = some (.int .i64 x.q)
theorem Sv.kept {w w' : World} {F G : Nat → Prop} {a : Option Addr} {n c : Nat} {xs : List Srv} (h : Sv w F a n c xs) (k : Kept G w w') (hd : ∀ b, F b → ¬ G b) : Sv w' F a n c xs :=
  ⟨h.len, h.cap, h.max, h.nil, fun i x hx => by obtain ⟨ok, b, o, e, hb, h0, h1, h2, h3⟩ := h.at' i x hx; exact ⟨ok, b, o, e, hb, k.cell h0 (hd b hb), k.cell h1 (hd b hb), k.cell h2 (hd b hb), k.cell h3 (hd b hb)⟩⟩
theorem Sv.keep {w w' : World} {F : Nat → Prop} {a : Option Addr} {n c : Nat} {xs : List Srv} (h : Sv w F a n c xs) (k : Kept No w w') : Sv w' F a n c xs := h.kept k (fun _ _ h => h)
theorem Sv.take {w : World} {F : Nat → Prop} {a : Option Addr} {n c : Nat} {xs : List Srv} (h : Sv w F a n c xs) (k : Nat) (hk : k ≤ n) : Sv w F a k c (xs.take k) :=
  ⟨by rw [List.length_take, h.len]; omega, by have := h.cap; omega, h.max, h.nil, fun i x hx => h.at' i x (by
    rw [List.getElem?_take] at hx; split at hx; exact hx; cases hx)⟩

theorem er_cutSv {w : World} {a : Act} {o : Oper} (x y : Operand) (ho : o.op = .slice 63 x none (some y) none) (b off n c k : Nat) (hk : k ≤ c) (hc : c ≤ 9223372036854775807) (hx : a.eval x = .slice (some ⟨b, off, none⟩) n c) (hy : a.eval y = .int .i64 k) : (execOp a.eval o).run Tryz.prog w = .ok (.value (.slice (some ⟨b, off, none⟩) k c)) w := by
  simp only [execOp, ho, Option.map_none, Option.map_some, hx, hy]
  simp [go_sem, hk]
  try omega
theorem quiet_findsSv {C : World → Prop} {a : Act} {o : Oper} {K : Act → Prop} (x0 x1 x2 : Operand) (ho : o.op = .call { callee := .value (.func 167), args := #[x0, x1, x2], argTypes := #[257, 36, 63] }) (v0 v1 v2 v : Value) (h0 : a.eval x0 = v0) (h1 : a.eval x1 = v1) (h2 : a.eval x2 = v2)
    (hc : ∀ w, C w → Calls Tryz.prog 167 #[v0, v1, v2] w fun e w'' => e = .returned v ∧ C w'') (hk : K (a.put o.dst v)) : o.quiet Tryz.prog a C K :=
  quiet_call' (f := 167) (args := #[v0, v1, v2]) (fun w => by subst h0 h1 h2; simp [execOp, ho, go_sem, Act.eval]) hc hk

set_option maxHeartbeats 16000000 in
theorem eachSv (F : Nat → Prop) (first : Int) (a : Option Addr) (n c : Nat) (xs : List Srv) (tb m mc : Nat) (rs : Nat → Rw) (E : Nat → Nat → Int) (w : World) (h : Sv w F a n c xs) (hm : m ≤ 1000) (hT : Tb w tb m rs) (hf : 0 ≤ first) (hf2 : first ≤ 1)
    (hE : ∀ i j w', i < n → j < m → Kept No w w' → Calls Tryz.prog 167 #[(rs j).v, (xs.getD i ⟨0, 0, 0, 0⟩).v, .slice a i c] w' fun e w'' => e = .returned (.int .i64 (E i j)) ∧ Kept No w' w'') :
    Calls Tryz.prog 119 #[.slice a n c, .int .i64 first, .slice (some ⟨tb, 0, none⟩) m mc] w fun e w' => e = .returned (fv (eachF (fun i => rowsF (E i) m) first n)) ∧ Kept No w w' := by
  have hn : n ≤ 9223372036854775807 := Nat.le_trans h.cap h.max
  have H : Hid (Sv w F a n c xs) := h
  have HT : Hid (Tb w tb m rs) := hT
  have HE : Hid (∀ i j w', i < n → j < m → Kept No w w' → Calls Tryz.prog 167 #[(rs j).v, (xs.getD i ⟨0, 0, 0, 0⟩).v, .slice a i c] w' fun e w'' => e = .returned (.int .i64 (E i j)) ∧ Kept No w' w'') := hE
  clear h hT hE
  go_enter Tryz.func119, Tryz.ntmps119
  go_wp2
  go_loopw [14] (fun x wr => ∃ k : Nat, k ≤ n ∧ x = .int .i64 k ∧ Kept No w wr ∧ eachF (fun i => rowsF (E i) m) first k = none) (fun x _ => n - (intOf x).toNat)
  case atStart => exact ⟨0, by omega, rfl, Kept.refl No w, rfl⟩
  case round =>
    obtain ⟨k, hk, rfl, hkr, hno⟩ := hrel
    by_cases hlt : k < n
    · generalize wr = wo at *
      have hx : xs[k]? = some (xs.getD k ⟨0, 0, 0, 0⟩) := by rw [List.getD, List.getElem?_eq_getElem (by rw [H.out.len]; exact hlt)]; rfl
      obtain ⟨hok, b, o, rfl, hb, c0, c1, c2, c3⟩ := (H.out.keep hkr).at' k _ hx
      have HW : Hid (Kept No w (wo.alloc (.cells #[.int .i64 (xs.getD k ⟨0, 0, 0, 0⟩).p, .int .i64 (xs.getD k ⟨0, 0, 0, 0⟩).b, .int .i64 (xs.getD k ⟨0, 0, 0, 0⟩).o, .int .i64 (xs.getD k ⟨0, 0, 0, 0⟩).q] 36))) := hkr.alloc _
      have HEk : Hid (∀ j w', j < m → Kept No w w' → Calls Tryz.prog 167 #[(rs j).v, (xs.getD k ⟨0, 0, 0, 0⟩).v, .slice (some ⟨b, o, none⟩) k c] w' fun e w'' => e = .returned (.int .i64 (E k j)) ∧ Kept No w' w'') := fun j w' hj hw => HE.out k j w' hlt hj hw
      have HNO : Hid (eachF (fun i => rowsF (E i) m) first k = none) := hno
      have hcap : k ≤ c := by have := H.out.cap; omega
      have hcm := H.out.max
      clear hno hx hok hkr
      generalize xs.getD k ⟨0, 0, 0, 0⟩ = y at *
      obtain ⟨yp, yb, yo, yq⟩ := y
      simp only at c0 c1 c2 c3 HW
      go_upto_region 4 with fail
      generalize hW1 : wo.alloc (.cells #[.int .i64 yp, .int .i64 yb, .int .i64 yo, .int .i64 yq] 36) = w1 at *
      have HCY : Hid (w1.cell? ⟨wo.heap.size, 0, none⟩ = some (.int .i64 yp) ∧ w1.cell? ⟨wo.heap.size, 1, none⟩ = some (.int .i64 yb) ∧ w1.cell? ⟨wo.heap.size, 2, none⟩ = some (.int .i64 yo) ∧ w1.cell? ⟨wo.heap.size, 3, none⟩ = some (.int .i64 yq)) := by subst hW1; exact ⟨by simp, by simp, by simp, by simp⟩
      clear hW1 c0 c1 c2 c3
      go_wp2
      go_loopw [21] (fun y wr => ∃ j : Nat, j ≤ m ∧ y = .int .i64 j ∧ Kept No w1 wr ∧ rowsF (E k) j = 0) (fun y _ => m - (intOf y).toNat)
      case atStart => exact ⟨0, by omega, rfl, Kept.refl No _, rfl⟩
      case round =>
        obtain ⟨j, hj, rfl, hkr2, hno2⟩ := hrel
        have HR0 : Hid (rowsF (E k) j = 0) := hno2
        clear hno2
        by_cases hjt : j < m
        · obtain ⟨t0, t1, t2, t3⟩ := ((HT.out.kept HW.out).kept hkr2) j hjt
          have HK2 : Hid (Kept No w1 (wr.alloc (.cells #[.int .i64 (rs j).err, (rs j).f1, (rs j).f2, (rs j).f3] 257))) := hkr2.alloc _
          have HRC : Hid (∀ w5, Kept No w1 w5 → (Instr.loadAt 36 (.pointer (some ⟨wo.heap.size, 0, none⟩))).run Tryz.prog w5 = .ok (.agg #[.int .i64 yp, .int .i64 yb, .int .i64 yo, .int .i64 yq]) w5) := fun w5 h5 => by
            obtain ⟨z0, z1, z2, z3⟩ := HCY.out
            have z0 := h5.cell z0 (fun h => h)
            have z1 := h5.cell z1 (fun h => h)
            have z2 := h5.cell z2 (fun h => h)
            have z3 := h5.cell z3 (fun h => h)
            simp [go_sem, z0, z1, z2, z3]
          have HRW : Hid (∀ w5, Kept No (wr.alloc (.cells #[.int .i64 (rs j).err, (rs j).f1, (rs j).f2, (rs j).f3] 257)) w5 → (Instr.loadAt 257 (.pointer (some ⟨wr.heap.size, 0, none⟩))).run Tryz.prog w5 = .ok (rs j).v w5) := fun w5 h5 => by
            have z0 := h5.cell (p := ⟨wr.heap.size, 0, none⟩) (v := .int .i64 (rs j).err) (by simp) (fun h => h)
            have z1 := h5.cell (p := ⟨wr.heap.size, 1, none⟩) (v := (rs j).f1) (by simp) (fun h => h)
            have z2 := h5.cell (p := ⟨wr.heap.size, 2, none⟩) (v := (rs j).f2) (by simp) (fun h => h)
            have z3 := h5.cell (p := ⟨wr.heap.size, 3, none⟩) (v := (rs j).f3) (by simp) (fun h => h)
            simp [go_sem, z0, z1, z2, z3, Rw.v]
          have HEj : Hid (∀ w', Kept No w1 w' → Calls Tryz.prog 167 #[(rs j).v, .agg #[.int .i64 yp, .int .i64 yb, .int .i64 yo, .int .i64 yq], .slice (some ⟨b, o, none⟩) k c] w' fun e w'' => e = .returned (.int .i64 (E k j)) ∧ Kept No w' w'') := fun w' hw => HEk.out j w' hjt (HW.out.trans hw (fun _ h => h.elim))
          have HW0 : Hid (Kept No w w1) := HW.out
          clear hkr2 HW HEk HT HE H HCY
          have hrc := HRC.out
          have s1 : ∀ (ad : Addr) (mo : Mode) (W : World), (store ad (rs j).f1 mo).run Tryz.prog W = stored Tryz.prog W ad (rs j).f1 mo := fun ad mo W => run_store _ _ _ _ _ (rs j).h1
          have s2 : ∀ (ad : Addr) (mo : Mode) (W : World), (store ad (rs j).f2 mo).run Tryz.prog W = stored Tryz.prog W ad (rs j).f2 mo := fun ad mo W => run_store _ _ _ _ _ (rs j).h2
          have s3 : ∀ (ad : Addr) (mo : Mode) (W : World), (store ad (rs j).f3 mo).run Tryz.prog W = stored Tryz.prog W ad (rs j).f3 mo := fun ad mo W => run_store _ _ _ _ _ (rs j).h3
          go_upto_region 7 with fail
          clear t0 t1 t2 t3 hrc s1 s2 s3
          generalize hW2 : wr.alloc (.cells #[.int .i64 (rs j).err, (rs j).f1, (rs j).f2, (rs j).f3] 257) = w2 at *
          clear hW2
          refine wp_region_kept w2 (by kernel_rfl) (by kernel_rfl) (Kept.refl No w2) ?_
          refine BigFrame.wpQuiet_want rfl (fun K hK => ?_)
          refine quiet_val' (fun w5 hw5 => er_ld _ _ rfl _ _ rfl (HRW.out w5 hw5)) ?_
          refine hK _ ?_
          clear hK K
          simp only [Act.put, List.setIfInBounds_toArray, List.set_cons_zero, List.set_cons_succ]
          refine BigFrame.wpQuiet_want rfl (fun K hK => ?_)
          refine quiet_val' (fun w5 hw5 => er_ld _ _ rfl _ _ rfl (HRC.out w5 (HK2.out.trans hw5 (fun _ h => h.elim)))) ?_
          refine hK _ ?_
          clear hK K
          simp only [Act.put, List.setIfInBounds_toArray, List.set_cons_zero, List.set_cons_succ]
          refine BigFrame.wpQuiet_want rfl (fun K hK => ?_)
          refine quiet_val' (fun w5 hw5 => er_mv _ rfl (.slice (some ⟨b, o, none⟩) n c) rfl) ?_
          refine hK _ ?_
          clear hK K
          simp only [Act.put, List.setIfInBounds_toArray, List.set_cons_zero, List.set_cons_succ]
          refine BigFrame.wpQuiet_want rfl (fun K hK => ?_)
          refine quiet_val' (fun w5 hw5 => er_mv _ rfl (.int .i64 k) rfl) ?_
          refine hK _ ?_
          clear hK K
          simp only [Act.put, List.setIfInBounds_toArray, List.set_cons_zero, List.set_cons_succ]
          refine BigFrame.wpQuiet_want rfl (fun K hK => ?_)
          refine quiet_val' (fun w5 hw5 => er_cutSv _ _ rfl b o n c k hcap hcm rfl rfl) ?_
          refine hK _ ?_
          clear hK K
          simp only [Act.put, List.setIfInBounds_toArray, List.set_cons_zero, List.set_cons_succ]
          refine BigFrame.wpQuiet_want rfl (fun K hK => ?_)
          refine quiet_findsSv _ _ _ rfl (rs j).v (.agg #[.int .i64 yp, .int .i64 yb, .int .i64 yo, .int .i64 yq]) (.slice (some ⟨b, o, none⟩) k c) (.int .i64 (E k j)) rfl rfl rfl (fun w5 hw5 => (HEj.out w5 (HK2.out.trans hw5 (fun _ h => h.elim))).mono (fun e w6 he => ⟨he.1, hw5.trans he.2 (fun _ h => h.elim)⟩)) ?_
          refine hK _ ?_
          clear hK K
          simp only [Act.put, List.setIfInBounds_toArray, List.set_cons_zero, List.set_cons_succ]
          refine BigFrame.wpQuiet_want rfl (fun K hK => ?_)
          refine quiet_val' (fun w5 hw5 => er_as _ rfl (.int .i64 (E k j)) rfl) ?_
          refine hK _ ?_
          clear hK K
          simp only [Act.put, List.setIfInBounds_toArray, List.set_cons_zero, List.set_cons_succ]
          refine wpQuiet_nil ?_
          intro w6 hw6
          have HW6 : Hid (Kept No w1 w6) := HK2.out.trans hw6 (fun _ h => h.elim)
          clear hw6 HRC HRW HEj HK2
          by_cases he : E k j = 0
          · have HR1 : Hid (rowsF (E k) (j + 1) = 0) := rowsF_miss HR0.out he
            have HE0 : Hid (E k j = 0) := he
            go_wp2
            go_roundw
            case rel => exact ⟨j + 1, by omega, by go_num, HW6.out, HR1.out⟩
            case measure => simp [intOf]; omega
          · have HF : Hid (eachF (fun i => rowsF (E i) m) first n = some (E k j, first + k)) := by
              have e1 := rowsF_hit HR0.out he m hjt
              have e2 := eachF_hit (r := fun i => rowsF (E i) m) HNO.out (by simp only [e1]; exact he) n hlt
              have e3 : eachF (fun i => rowsF (E i) m) first n = some (E k j, first + k) := by rw [e2]; simp only [e1]
              exact e3
            go_wp2
            go_ret
            exact ⟨by rw [HF.out]; rfl, HW0.out.trans HW6.out (fun _ h => h.elim)⟩
        · have hje : j = m := by omega
          subst hje
          have HN1 : Hid (eachF (fun i => rowsF (E i) j) first (k + 1) = none) := eachF_miss HNO.out HR0.out
          have HW6 : Hid (Kept No w wr) := HW.out.trans hkr2 (fun _ h => h.elim)
          clear hkr2 HW HEk HT HE H HCY
          go_wp2
          go_roundw
          case rel => exact ⟨k + 1, by omega, by go_num, HW6.out, HN1.out⟩
          case measure => simp [intOf]; omega
    · have hke : k = n := by omega
      subst hke
      have HF : Hid (eachF (fun i => rowsF (E i) m) first k = none) := hno
      have HW6 : Hid (Kept No w wr) := hkr
      clear hno hkr
      go_wp2
      go_ret
      exact ⟨by rw [HF.out]; rfl, HW6.out⟩

end Go.Proofs.YtknobeiggmghoaaGreatDoor

namespace Go.Proofs.YtknobeiggmghoaaGreatDoor
open Go.RowKit
set_option linter.unusedVariables false
set_option maxRecDepth 100000

def okL {α : Type} (ok : α → Prop) (l : List α) : Prop := ∀ x ∈ l, ok x
def U8 (x : Int) : Prop := 0 ≤ x ∧ x < 256
def I3 (x : Int) : Prop := -2147483648 ≤ x ∧ x ≤ 2147483647
structure Ins where
  op : Int
  a : Int
  b : Int
  c : Int
  imm : Int
def okIns (x : Ins) : Prop := U8 x.op ∧ U8 x.a ∧ U8 x.b ∧ U8 x.c ∧ I3 x.imm
structure Prc where
  en : Int
  pr : Int
  pe : Int
  li : Int
  ca : Int
  auto : Bool
def okPrc (x : Prc) : Prop := I6 x.en ∧ I6 x.pr ∧ I6 x.pe ∧ I6 x.li ∧ I6 x.ca ∧ (fun _ : Bool => True) x.auto
structure Sm where
  st : Int
  mx : Int
def okSm (x : Sm) : Prop := I6 x.st ∧ I6 x.mx
structure Bf where
  sz : Int
  dp : Int
def okBf (x : Bf) : Prop := I6 x.sz ∧ I6 x.dp
structure Po where
  pt : Int
  kd : Int
  out : Bool
  sz : Int
  dp : Int
  rf : Int
def okPo (x : Po) : Prop := I6 x.pt ∧ I6 x.kd ∧ (fun _ : Bool => True) x.out ∧ I6 x.sz ∧ I6 x.dp ∧ I6 x.rf
structure Ch where
  kd : Int
  fr : Int
  dst : List Int
  ph : Int
  pe : Int
def okCh (x : Ch) : Prop := I6 x.kd ∧ I6 x.fr ∧ okL I6 x.dst ∧ I6 x.ph ∧ I6 x.pe
structure Pn where
  pe : Int
  bu : Int
  off : Int
  pr : Int
  wo : Int
  fi : Int
  init : List Int
  code : List Ins
  procs : List Prc
  ha : Int
  h0 : Int
  h1 : Int
  h2 : Int
  h3 : Int
  h4 : Int
  h5 : Int
  h6 : Int
  h7 : Int
  sems : List Sm
  evs : List Bool
  bufs : List Bf
def okPn (x : Pn) : Prop := I6 x.pe ∧ I6 x.bu ∧ I6 x.off ∧ I6 x.pr ∧ I6 x.wo ∧ I6 x.fi ∧ okL I6 x.init ∧ okL okIns x.code ∧ okL okPrc x.procs ∧ I6 x.ha ∧ I6 x.h0 ∧ I6 x.h1 ∧ I6 x.h2 ∧ I6 x.h3 ∧ I6 x.h4 ∧ I6 x.h5 ∧ I6 x.h6 ∧ I6 x.h7 ∧ okL okSm x.sems ∧ okL (fun _ => True) x.evs ∧ okL okBf x.bufs
structure Im where
  parts : List Pn
  ports : List Po
  chans : List Ch
def okIm (x : Im) : Prop := okL okPn x.parts ∧ okL okPo x.ports ∧ okL okCh x.chans

/-- a slice of elements of so many cells each, told by what an element's cells mean; its blocks lie in F -/
structure Ls {α : Type} (sz : Nat) (El : World → (Nat → Prop) → List Value → α → Prop) (w : World) (F : Nat → Prop) (a : Option Addr) (n c : Nat) (xs : List α) : Prop where
  len : xs.length = n
  cap : n ≤ c
  max : c ≤ 9223372036854775807
  nil : a = none → c = 0
  at' : ∀ i x, xs[i]? = some x → ∃ b o cs, a = some ⟨b, o, none⟩ ∧ F b ∧ cs.length = sz ∧ w.rangeAt b (o + i * sz) cs ∧ El w F cs x

theorem rangeAt_kept {G : Nat → Prop} {w w' : World} {b o : Nat} {cs : List Value} (h : w.rangeAt b o cs) (k : Kept G w w') (hb : ¬ G b) : w'.rangeAt b o cs :=
  fun j v hv => k.cell (h j v hv) hb
theorem Ls.kept {α : Type} {sz : Nat} {El : World → (Nat → Prop) → List Value → α → Prop} {w w' : World} {F G : Nat → Prop} {a : Option Addr} {n c : Nat} {xs : List α}
    (h : Ls sz El w F a n c xs) (k : Kept G w w') (hd : ∀ b, F b → ¬ G b) (he : ∀ cs x, El w F cs x → El w' F cs x) : Ls sz El w' F a n c xs :=
  ⟨h.len, h.cap, h.max, h.nil, fun i x hx => by obtain ⟨b, o, cs, e, hb, hl, hr, hE⟩ := h.at' i x hx; exact ⟨b, o, cs, e, hb, hl, rangeAt_kept hr k (hd b hb), he cs x hE⟩⟩
theorem Ls.mono {α : Type} {sz : Nat} {El : World → (Nat → Prop) → List Value → α → Prop} {w : World} {F G : Nat → Prop} {a : Option Addr} {n c : Nat} {xs : List α}
    (h : Ls sz El w F a n c xs) (hF : ∀ k, F k → G k) (he : ∀ cs x, El w F cs x → El w G cs x) : Ls sz El w G a n c xs :=
  ⟨h.len, h.cap, h.max, h.nil, fun i x hx => by obtain ⟨b, o, cs, e, hb, hl, hr, hE⟩ := h.at' i x hx; exact ⟨b, o, cs, e, hF b hb, hl, hr, he cs x hE⟩⟩
theorem Ls.all {α : Type} {sz : Nat} {El : World → (Nat → Prop) → List Value → α → Prop} {w : World} {F : Nat → Prop} {a : Option Addr} {n c : Nat} {xs : List α}
    (h : Ls sz El w F a n c xs) {ok : α → Prop} (he : ∀ cs x, El w F cs x → ok x) : okL ok xs := by
  intro x hx
  obtain ⟨i, hi⟩ := List.getElem?_of_mem hx
  obtain ⟨b, o, cs, e, hb, hl, hr, hE⟩ := h.at' i x hi
  exact he cs x hE

/-! ### what an element's cells are -/
def elI (w : World) (F : Nat → Prop) (cs : List Value) (x : Int) : Prop := cs = [.int .i64 x] ∧ I6 x
def elB (w : World) (F : Nat → Prop) (cs : List Value) (x : Bool) : Prop := cs = [.bool x]
def elIns (w : World) (F : Nat → Prop) (cs : List Value) (x : Ins) : Prop := cs = [.int .u8 x.op, .int .u8 x.a, .int .u8 x.b, .int .u8 x.c, .int .i32 x.imm] ∧ okIns x
def elPrc (w : World) (F : Nat → Prop) (cs : List Value) (x : Prc) : Prop := cs = [.int .i64 x.en, .int .i64 x.pr, .int .i64 x.pe, .int .i64 x.li, .int .i64 x.ca, .bool x.auto] ∧ okPrc x
def elSm (w : World) (F : Nat → Prop) (cs : List Value) (x : Sm) : Prop := cs = [.int .i64 x.st, .int .i64 x.mx] ∧ okSm x
def elBf (w : World) (F : Nat → Prop) (cs : List Value) (x : Bf) : Prop := cs = [.int .i64 x.sz, .int .i64 x.dp] ∧ okBf x
def elPo (w : World) (F : Nat → Prop) (cs : List Value) (x : Po) : Prop := cs = [.int .i64 x.pt, .int .i64 x.kd, .bool x.out, .int .i64 x.sz, .int .i64 x.dp, .int .i64 x.rf] ∧ okPo x
/-- a channel; its list -/
structure elCh (w : World) (F : Nat → Prop) (cs : List Value) (x : Ch) : Prop where
  sl : ∃ a n c, cs = [.int .i64 x.kd, .int .i64 x.fr, .slice a n c, .int .i64 x.ph, .int .i64 x.pe] ∧ Ls 1 elI w F a n c x.dst
  ok : okCh x
/-- a partition; its lists -/
structure elPn (w : World) (F : Nat → Prop) (cs : List Value) (x : Pn) : Prop where
  sl : ∃ a0 n0 c0 a1 n1 c1 a2 n2 c2 a3 n3 c3 a4 n4 c4 a5 n5 c5, cs = [.int .i64 x.pe, .int .i64 x.bu, .int .i64 x.off, .int .i64 x.pr, .int .i64 x.wo, .int .i64 x.fi, .slice a0 n0 c0, .slice a1 n1 c1, .slice a2 n2 c2, .int .i64 x.ha, .int .i64 x.h0, .int .i64 x.h1, .int .i64 x.h2, .int .i64 x.h3, .int .i64 x.h4, .int .i64 x.h5, .int .i64 x.h6, .int .i64 x.h7, .slice a3 n3 c3, .slice a4 n4 c4, .slice a5 n5 c5] ∧
    Ls 1 elI w F a0 n0 c0 x.init ∧ Ls 5 elIns w F a1 n1 c1 x.code ∧ Ls 6 elPrc w F a2 n2 c2 x.procs ∧ Ls 2 elSm w F a3 n3 c3 x.sems ∧ Ls 1 elB w F a4 n4 c4 x.evs ∧ Ls 2 elBf w F a5 n5 c5 x.bufs
  ok : okPn x

theorem elI_kept {G : Nat → Prop} {w w' : World} {F : Nat → Prop} (k : Kept G w w') (hd : ∀ b, F b → ¬ G b) : ∀ cs x, elI w F cs x → elI w' F cs x := fun _ _ h => h
theorem elB_kept {G : Nat → Prop} {w w' : World} {F : Nat → Prop} (k : Kept G w w') (hd : ∀ b, F b → ¬ G b) : ∀ cs x, elB w F cs x → elB w' F cs x := fun _ _ h => h
theorem elIns_kept {G : Nat → Prop} {w w' : World} {F : Nat → Prop} (k : Kept G w w') (hd : ∀ b, F b → ¬ G b) : ∀ cs x, elIns w F cs x → elIns w' F cs x := fun _ _ h => h
theorem elPrc_kept {G : Nat → Prop} {w w' : World} {F : Nat → Prop} (k : Kept G w w') (hd : ∀ b, F b → ¬ G b) : ∀ cs x, elPrc w F cs x → elPrc w' F cs x := fun _ _ h => h
theorem elSm_kept {G : Nat → Prop} {w w' : World} {F : Nat → Prop} (k : Kept G w w') (hd : ∀ b, F b → ¬ G b) : ∀ cs x, elSm w F cs x → elSm w' F cs x := fun _ _ h => h
theorem elBf_kept {G : Nat → Prop} {w w' : World} {F : Nat → Prop} (k : Kept G w w') (hd : ∀ b, F b → ¬ G b) : ∀ cs x, elBf w F cs x → elBf w' F cs x := fun _ _ h => h
theorem elPo_kept {G : Nat → Prop} {w w' : World} {F : Nat → Prop} (k : Kept G w w') (hd : ∀ b, F b → ¬ G b) : ∀ cs x, elPo w F cs x → elPo w' F cs x := fun _ _ h => h
theorem elCh_kept {G : Nat → Prop} {w w' : World} {F : Nat → Prop} (k : Kept G w w') (hd : ∀ b, F b → ¬ G b) : ∀ cs x, elCh w F cs x → elCh w' F cs x := fun cs x h => by
  obtain ⟨⟨a, n, c, e, h1⟩, ho⟩ := h
  exact ⟨⟨a, n, c, e, h1.kept k hd (elI_kept k hd)⟩, ho⟩
theorem elPn_kept {G : Nat → Prop} {w w' : World} {F : Nat → Prop} (k : Kept G w w') (hd : ∀ b, F b → ¬ G b) : ∀ cs x, elPn w F cs x → elPn w' F cs x := fun cs x h => by
  obtain ⟨⟨a0, n0, c0, a1, n1, c1, a2, n2, c2, a3, n3, c3, a4, n4, c4, a5, n5, c5, e, h0, h1, h2, h3, h4, h5⟩, ho⟩ := h
  exact ⟨⟨a0, n0, c0, a1, n1, c1, a2, n2, c2, a3, n3, c3, a4, n4, c4, a5, n5, c5, e, h0.kept k hd (elI_kept k hd), h1.kept k hd (elIns_kept k hd), h2.kept k hd (elPrc_kept k hd), h3.kept k hd (elSm_kept k hd), h4.kept k hd (elB_kept k hd), h5.kept k hd (elBf_kept k hd)⟩, ho⟩
theorem elCh_mono {w : World} {F G : Nat → Prop} (hF : ∀ k, F k → G k) : ∀ cs x, elCh w F cs x → elCh w G cs x := fun cs x h => by
  obtain ⟨⟨a, n, c, e, h1⟩, ho⟩ := h
  exact ⟨⟨a, n, c, e, h1.mono hF (fun _ _ h => h)⟩, ho⟩
theorem elPn_mono {w : World} {F G : Nat → Prop} (hF : ∀ k, F k → G k) : ∀ cs x, elPn w F cs x → elPn w G cs x := fun cs x h => by
  obtain ⟨⟨a0, n0, c0, a1, n1, c1, a2, n2, c2, a3, n3, c3, a4, n4, c4, a5, n5, c5, e, h0, h1, h2, h3, h4, h5⟩, ho⟩ := h
  exact ⟨⟨a0, n0, c0, a1, n1, c1, a2, n2, c2, a3, n3, c3, a4, n4, c4, a5, n5, c5, e, h0.mono hF (fun _ _ h => h), h1.mono hF (fun _ _ h => h), h2.mono hF (fun _ _ h => h), h3.mono hF (fun _ _ h => h), h4.mono hF (fun _ _ h => h), h5.mono hF (fun _ _ h => h)⟩, ho⟩

/-- an image that is read -/
structure Img (w : World) (F : Nat → Prop) (a0 : Option Addr) (n0 c0 : Nat) (a1 : Option Addr) (n1 c1 : Nat) (a2 : Option Addr) (n2 c2 : Nat) (x : Im) : Prop where
  ps : Ls 21 elPn w F a0 n0 c0 x.parts
  qs : Ls 6 elPo w F a1 n1 c1 x.ports
  cs : Ls 5 elCh w F a2 n2 c2 x.chans
theorem Img.kept {w w' : World} {F G : Nat → Prop} {a0 : Option Addr} {n0 c0 : Nat} {a1 : Option Addr} {n1 c1 : Nat} {a2 : Option Addr} {n2 c2 : Nat} {x : Im} (h : Img w F a0 n0 c0 a1 n1 c1 a2 n2 c2 x) (k : Kept G w w') (hd : ∀ b, F b → ¬ G b) : Img w' F a0 n0 c0 a1 n1 c1 a2 n2 c2 x :=
  ⟨h.ps.kept k hd (elPn_kept k hd), h.qs.kept k hd (elPo_kept k hd), h.cs.kept k hd (elCh_kept k hd)⟩
theorem Img.mono {w : World} {F G : Nat → Prop} {a0 : Option Addr} {n0 c0 : Nat} {a1 : Option Addr} {n1 c1 : Nat} {a2 : Option Addr} {n2 c2 : Nat} {x : Im} (h : Img w F a0 n0 c0 a1 n1 c1 a2 n2 c2 x) (hF : ∀ k, F k → G k) : Img w G a0 n0 c0 a1 n1 c1 a2 n2 c2 x :=
  ⟨h.ps.mono hF (elPn_mono hF), h.qs.mono hF (fun _ _ h => h), h.cs.mono hF (elCh_mono hF)⟩
theorem Img.ok {w : World} {F : Nat → Prop} {a0 : Option Addr} {n0 c0 : Nat} {a1 : Option Addr} {n1 c1 : Nat} {a2 : Option Addr} {n2 c2 : Nat} {x : Im} (h : Img w F a0 n0 c0 a1 n1 c1 a2 n2 c2 x) : okIm x :=
  ⟨h.ps.all (fun _ _ h => h.ok), h.qs.all (fun _ _ h => h.2), h.cs.all (fun _ _ h => h.ok)⟩

end Go.Proofs.YtknobeiggmghoaaGreatDoor
