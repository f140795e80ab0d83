/-
  One text: CEachL, CRow, CTab.
-/
import Derived.Test.YtnmhcnppdhdhfaaGreatDoorG02
namespace Go.Proofs.YtnmhcnppdhdhfaaGreatDoor
open Go.RowKit
set_option linter.unusedVariables false
set_option maxRecDepth 100000

theorem er_cutSl {w : World} {a : Act} {o : Oper} (x y : Operand) (ho : o.op = .slice 154 x none (some y) none) (b off n c k : Nat) (hk : k ≤ c) (hc : c ≤ 9223372036854775807) (hx : a.eval x = .slice (some ⟨b, off, none⟩) n c) (hy : a.eval y = .int .i64 k) : (execOp a.eval o).run Tryz.prog w = .ok (.value (.slice (some ⟨b, off, none⟩) k c)) w := by
  simp only [execOp, ho, Option.map_none, Option.map_some, hx, hy]
  simp [go_sem, hk]
  try omega
theorem quiet_findsSl {C : World → Prop} {a : Act} {o : Oper} {K : Act → Prop} (x0 x1 x2 : Operand) (ho : o.op = .call { callee := .value (.func 166), args := #[x0, x1, x2], argTypes := #[158, 36, 154] }) (v0 v1 v2 v : Value) (h0 : a.eval x0 = v0) (h1 : a.eval x1 = v1) (h2 : a.eval x2 = v2)
    (hc : ∀ w, C w → Calls Tryz.prog 166 #[v0, v1, v2] w fun e w'' => e = .returned v ∧ C w'') (hk : K (a.put o.dst v)) : o.quiet Tryz.prog a C K :=
  quiet_call' (f := 166) (args := #[v0, v1, v2]) (fun w => by subst h0 h1 h2; simp [execOp, ho, go_sem, Act.eval]) hc hk

set_option maxHeartbeats 16000000 in
theorem eachSl (F : Nat → Prop) (first : Int) (la : Option Addr) (ln lc lb : Nat) (tb m mc : Nat) (rs : Nat → Rw) (E : Nat → Nat → Int) (w : World) (h : w.cell? ⟨lb, 0, none⟩ = some (.slice la ln lc)) (hm : m ≤ 1000) (hT : Tb w tb m rs) (hf : 0 ≤ first) (hf2 : first ≤ 1)
    (hE : ∀ i j w', i < 1 → j < m → Kept No w w' → Calls Tryz.prog 166 #[(rs j).v, (.slice la ln lc), .slice (some ⟨lb, 0, none⟩) i 1] w' fun e w'' => e = .returned (.int .i64 (E i j)) ∧ Kept No w' w'') :
    Calls Tryz.prog 89 #[.slice (some ⟨lb, 0, none⟩) 1 1, .int .i64 first, .slice (some ⟨tb, 0, none⟩) m mc] w fun e w' => e = .returned (fv (eachF (fun i => rowsF (E i) m) first 1)) ∧ Kept No w w' := by
  have H : Hid (w.cell? ⟨lb, 0, none⟩ = some (.slice la ln lc)) := h
  have HT : Hid (Tb w tb m rs) := hT
  have HE : Hid (∀ i j w', i < 1 → j < m → Kept No w w' → Calls Tryz.prog 166 #[(rs j).v, (.slice la ln lc), .slice (some ⟨lb, 0, none⟩) i 1] w' fun e w'' => e = .returned (.int .i64 (E i j)) ∧ Kept No w' w'') := hE
  clear h hT hE
  go_enter Tryz.func89, Tryz.ntmps89
  go_wp2
  go_loopw [14] (fun x wr => ∃ k : Nat, k ≤ 1 ∧ x = .int .i64 k ∧ Kept No w wr ∧ eachF (fun i => rowsF (E i) m) first k = none) (fun x _ => 1 - (intOf x).toNat)
  case atStart => exact ⟨0, by omega, rfl, Kept.refl No w, rfl⟩
  case round =>
    obtain ⟨k, hk, rfl, hkr, hno⟩ := hrel
    by_cases hlt : k < 1
    · generalize wr = wo at *
      have HK0 : Hid (k = 0) := by show k = 0; omega
      have c0 : wo.cell? ⟨lb, k, none⟩ = some (.slice la ln lc) := by rw [HK0.out]; exact hkr.cell H.out (fun h => h)
      have HW : Hid (Kept No w wo) := hkr
      have HEk : Hid (∀ j w', j < m → Kept No w w' → Calls Tryz.prog 166 #[(rs j).v, .slice la ln lc, .slice (some ⟨lb, 0, none⟩) k 1] w' fun e w'' => e = .returned (.int .i64 (E k j)) ∧ Kept No w' w'') := fun j w' hj hw => HE.out k j w' hlt hj hw
      have HNO : Hid (eachF (fun i => rowsF (E i) m) first k = none) := hno
      have hcap : k ≤ 1 := by omega
      have hcm : (1 : Nat) ≤ 9223372036854775807 := by omega
      clear hno hkr
      go_upto_region 4 with fail
      clear c0
      generalize wo = w1 at *
      go_wp2
      go_loopw [21] (fun y wr => ∃ j : Nat, j ≤ m ∧ y = .int .i64 j ∧ Kept No w1 wr ∧ rowsF (E k) j = 0) (fun y _ => m - (intOf y).toNat)
      case atStart => exact ⟨0, by omega, rfl, Kept.refl No _, rfl⟩
      case round =>
        obtain ⟨j, hj, rfl, hkr2, hno2⟩ := hrel
        have HR0 : Hid (rowsF (E k) j = 0) := hno2
        clear hno2
        by_cases hjt : j < m
        · obtain ⟨t0, t1, t2, t3⟩ := ((HT.out.kept HW.out).kept hkr2) j hjt
          have HK2 : Hid (Kept No w1 (wr.alloc (.cells #[.int .i64 (rs j).err, (rs j).f1, (rs j).f2, (rs j).f3] 158))) := hkr2.alloc _
          have HRW : Hid (∀ w5, Kept No (wr.alloc (.cells #[.int .i64 (rs j).err, (rs j).f1, (rs j).f2, (rs j).f3] 158)) w5 → (Instr.loadAt 158 (.pointer (some ⟨wr.heap.size, 0, none⟩))).run Tryz.prog w5 = .ok (rs j).v w5) := fun w5 h5 => by
            have z0 := h5.cell (p := ⟨wr.heap.size, 0, none⟩) (v := .int .i64 (rs j).err) (by simp) (fun h => h)
            have z1 := h5.cell (p := ⟨wr.heap.size, 1, none⟩) (v := (rs j).f1) (by simp) (fun h => h)
            have z2 := h5.cell (p := ⟨wr.heap.size, 2, none⟩) (v := (rs j).f2) (by simp) (fun h => h)
            have z3 := h5.cell (p := ⟨wr.heap.size, 3, none⟩) (v := (rs j).f3) (by simp) (fun h => h)
            simp [go_sem, z0, z1, z2, z3, Rw.v]
          have HEj : Hid (∀ w', Kept No w1 w' → Calls Tryz.prog 166 #[(rs j).v, .slice la ln lc, .slice (some ⟨lb, 0, none⟩) k 1] w' fun e w'' => e = .returned (.int .i64 (E k j)) ∧ Kept No w' w'') := fun w' hw => HEk.out j w' hjt (HW.out.trans hw (fun _ h => h.elim))
          have HW0 : Hid (Kept No w w1) := HW.out
          clear hkr2 HW HEk HT HE H 
          have s1 : ∀ (ad : Addr) (mo : Mode) (W : World), (store ad (rs j).f1 mo).run Tryz.prog W = stored Tryz.prog W ad (rs j).f1 mo := fun ad mo W => run_store _ _ _ _ _ (rs j).h1
          have s2 : ∀ (ad : Addr) (mo : Mode) (W : World), (store ad (rs j).f2 mo).run Tryz.prog W = stored Tryz.prog W ad (rs j).f2 mo := fun ad mo W => run_store _ _ _ _ _ (rs j).h2
          have s3 : ∀ (ad : Addr) (mo : Mode) (W : World), (store ad (rs j).f3 mo).run Tryz.prog W = stored Tryz.prog W ad (rs j).f3 mo := fun ad mo W => run_store _ _ _ _ _ (rs j).h3
          go_upto_region 7 with fail
          clear t0 t1 t2 t3 s1 s2 s3
          generalize hW2 : wr.alloc (.cells #[.int .i64 (rs j).err, (rs j).f1, (rs j).f2, (rs j).f3] 158) = w2 at *
          clear hW2
          refine wp_region_kept w2 (by kernel_rfl) (by kernel_rfl) (Kept.refl No w2) ?_
          refine BigFrame.wpQuiet_want rfl (fun K hK => ?_)
          refine quiet_val' (fun w5 hw5 => er_ld _ _ rfl _ _ rfl (HRW.out w5 hw5)) ?_
          refine hK _ ?_
          clear hK K
          simp only [Act.put, List.setIfInBounds_toArray, List.set_cons_zero, List.set_cons_succ]
          refine BigFrame.wpQuiet_want rfl (fun K hK => ?_)
          refine quiet_val' (fun w5 hw5 => er_mv _ rfl (.slice la ln lc) rfl) ?_
          refine hK _ ?_
          clear hK K
          simp only [Act.put, List.setIfInBounds_toArray, List.set_cons_zero, List.set_cons_succ]
          refine BigFrame.wpQuiet_want rfl (fun K hK => ?_)
          refine quiet_val' (fun w5 hw5 => er_mv _ rfl (.slice (some ⟨lb, 0, none⟩) 1 1) rfl) ?_
          refine hK _ ?_
          clear hK K
          simp only [Act.put, List.setIfInBounds_toArray, List.set_cons_zero, List.set_cons_succ]
          refine BigFrame.wpQuiet_want rfl (fun K hK => ?_)
          refine quiet_val' (fun w5 hw5 => er_mv _ rfl (.int .i64 k) rfl) ?_
          refine hK _ ?_
          clear hK K
          simp only [Act.put, List.setIfInBounds_toArray, List.set_cons_zero, List.set_cons_succ]
          refine BigFrame.wpQuiet_want rfl (fun K hK => ?_)
          refine quiet_val' (fun w5 hw5 => er_cutSl _ _ rfl lb 0 1 1 k hcap hcm rfl rfl) ?_
          refine hK _ ?_
          clear hK K
          simp only [Act.put, List.setIfInBounds_toArray, List.set_cons_zero, List.set_cons_succ]
          refine BigFrame.wpQuiet_want rfl (fun K hK => ?_)
          refine quiet_findsSl _ _ _ rfl (rs j).v (.slice la ln lc) (.slice (some ⟨lb, 0, none⟩) k 1) (.int .i64 (E k j)) rfl rfl rfl (fun w5 hw5 => (HEj.out w5 (HK2.out.trans hw5 (fun _ h => h.elim))).mono (fun e w6 he => ⟨he.1, hw5.trans he.2 (fun _ h => h.elim)⟩)) ?_
          refine hK _ ?_
          clear hK K
          simp only [Act.put, List.setIfInBounds_toArray, List.set_cons_zero, List.set_cons_succ]
          refine BigFrame.wpQuiet_want rfl (fun K hK => ?_)
          refine quiet_val' (fun w5 hw5 => er_as _ rfl (.int .i64 (E k j)) rfl) ?_
          refine hK _ ?_
          clear hK K
          simp only [Act.put, List.setIfInBounds_toArray, List.set_cons_zero, List.set_cons_succ]
          refine wpQuiet_nil ?_
          intro w6 hw6
          have HW6 : Hid (Kept No w1 w6) := HK2.out.trans hw6 (fun _ h => h.elim)
          clear hw6 HRW HEj HK2
          by_cases he : E k j = 0
          · have HR1 : Hid (rowsF (E k) (j + 1) = 0) := rowsF_miss HR0.out he
            have HE0 : Hid (E k j = 0) := he
            go_wp2
            go_roundw
            case rel => exact ⟨j + 1, by omega, by go_num, HW6.out, HR1.out⟩
            case measure => simp [intOf]; omega
          · have HF : Hid (eachF (fun i => rowsF (E i) m) first 1 = some (E k j, first + k)) := by
              have e1 := rowsF_hit HR0.out he m hjt
              have e2 := eachF_hit (r := fun i => rowsF (E i) m) HNO.out (by simp only [e1]; exact he) 1 hlt
              have e3 : eachF (fun i => rowsF (E i) m) first 1 = some (E k j, first + k) := by rw [e2]; simp only [e1]
              exact e3
            go_wp2
            go_ret
            exact ⟨by rw [HF.out]; rfl, HW0.out.trans HW6.out (fun _ h => h.elim)⟩
        · have hje : j = m := by omega
          subst hje
          have HN1 : Hid (eachF (fun i => rowsF (E i) j) first (k + 1) = none) := eachF_miss HNO.out HR0.out
          have HW6 : Hid (Kept No w wr) := HW.out.trans hkr2 (fun _ h => h.elim)
          clear hkr2 HW HEk HT HE H 
          go_wp2
          go_roundw
          case rel => exact ⟨k + 1, by omega, by go_num, HW6.out, HN1.out⟩
          case measure => simp [intOf]; omega
    · have hke : k = 1 := by omega
      subst hke
      have HF : Hid (eachF (fun i => rowsF (E i) m) first 1 = none) := hno
      have HW6 : Hid (Kept No w wr) := hkr
      clear hno hkr
      go_wp2
      go_ret
      exact ⟨by rw [HF.out]; rfl, HW6.out⟩

end Go.Proofs.YtnmhcnppdhdhfaaGreatDoor

namespace Go.Proofs.YtnmhcnppdhdhfaaGreatDoor
open Go.RowKit
set_option linter.unusedVariables false
set_option maxRecDepth 100000

def inB (n lo hi : Int) : Bool := decide (lo ≤ n) && decide (n ≤ hi)

theorem within_any (n lo hi : Int) (w : World) :
    Calls Tryz.prog 106 #[.int .i64 n, .int .i64 lo, .int .i64 hi] w fun e w' => e = .returned (.bool (inB n lo hi)) ∧ w' = w := by
  by_cases h : lo ≤ n
  · by_cases h2 : n ≤ hi
    · rw [show inB n lo hi = true by simp [inB, h, h2]]
      go_enter Tryz.func106, Tryz.ntmps106
      go_wp2
      go_ret
      exact ⟨rfl, rfl⟩
    · rw [show inB n lo hi = false by simp [inB, h2]]
      go_enter Tryz.func106, Tryz.ntmps106
      go_wp2
      go_ret
      exact ⟨rfl, rfl⟩
  · rw [show inB n lo hi = false by simp [inB, h]]
    go_enter Tryz.func106, Tryz.ntmps106
    go_wp2
    go_ret
    exact ⟨rfl, rfl⟩

theorem srow1 (x : Srv) (w : World) : Calls Tryz.prog 161 #[x.v] w fun e w' => e = .returned (.bool (inB x.p 1 1048576)) ∧ Kept No w w' := by
  obtain ⟨p, b, o, q⟩ := x
  have HK : Hid (Kept No w (w.alloc (.cells #[.int .i64 p, .int .i64 b, .int .i64 o, .int .i64 q] 39))) := (Kept.refl No w).alloc _
  show Calls Tryz.prog 161 #[.agg #[.int .i64 p, .int .i64 b, .int .i64 o, .int .i64 q]] w fun e w' => e = .returned (.bool (inB p 1 1048576)) ∧ Kept No w w'
  go_enter Tryz.func161, Tryz.ntmps161
  go_wp2_with (go_at_call 106; refine (within_any _ _ _ _).mono ?_; rintro e w' ⟨rfl, rfl⟩)
  go_ret
  exact ⟨rfl, HK.out⟩
theorem srow2 (x : Srv) (w : World) : Calls Tryz.prog 162 #[x.v] w fun e w' => e = .returned (.bool (inB x.b 1 x.p)) ∧ Kept No w w' := by
  obtain ⟨p, b, o, q⟩ := x
  have HK : Hid (Kept No w (w.alloc (.cells #[.int .i64 p, .int .i64 b, .int .i64 o, .int .i64 q] 39))) := (Kept.refl No w).alloc _
  show Calls Tryz.prog 162 #[.agg #[.int .i64 p, .int .i64 b, .int .i64 o, .int .i64 q]] w fun e w' => e = .returned (.bool (inB b 1 p)) ∧ Kept No w w'
  go_enter Tryz.func162, Tryz.ntmps162
  go_wp2_with (go_at_call 106; refine (within_any _ _ _ _).mono ?_; rintro e w' ⟨rfl, rfl⟩)
  go_ret
  exact ⟨rfl, HK.out⟩
theorem srow3 (x : Srv) (w : World) : Calls Tryz.prog 163 #[x.v] w fun e w' => e = .returned (.bool (inB x.o 0 (wrap64 (x.p - 1)))) ∧ Kept No w w' := by
  obtain ⟨p, b, o, q⟩ := x
  have HK : Hid (Kept No w (w.alloc (.cells #[.int .i64 p, .int .i64 b, .int .i64 o, .int .i64 q] 39))) := (Kept.refl No w).alloc _
  show Calls Tryz.prog 163 #[.agg #[.int .i64 p, .int .i64 b, .int .i64 o, .int .i64 q]] w fun e w' => e = .returned (.bool (inB o 0 (wrap64 (p - 1)))) ∧ Kept No w w'
  go_enter Tryz.func163, Tryz.ntmps163
  go_wp2_with (go_at_call 106; refine (within_any _ _ _ _).mono ?_; rintro e w' ⟨rfl, rfl⟩)
  go_ret
  exact ⟨rfl, HK.out⟩
theorem srow4 (x : Srv) (w : World) : Calls Tryz.prog 164 #[x.v] w fun e w' => e = .returned (.bool (inB x.q 0 255)) ∧ Kept No w w' := by
  obtain ⟨p, b, o, q⟩ := x
  have HK : Hid (Kept No w (w.alloc (.cells #[.int .i64 p, .int .i64 b, .int .i64 o, .int .i64 q] 39))) := (Kept.refl No w).alloc _
  show Calls Tryz.prog 164 #[.agg #[.int .i64 p, .int .i64 b, .int .i64 o, .int .i64 q]] w fun e w' => e = .returned (.bool (inB q 0 255)) ∧ Kept No w w'
  go_enter Tryz.func164, Tryz.ntmps164
  go_wp2_with (go_at_call 106; refine (within_any _ _ _ _).mono ?_; rintro e w' ⟨rfl, rfl⟩)
  go_ret
  exact ⟨rfl, HK.out⟩

/-- has the block g a server of that priority? -/
theorem own1 (x : Srv) (g : Nat) (q : Int) (w : World) (h : w.cell? ⟨g, 3, none⟩ = some (.int .i64 q)) :
    Calls Tryz.prog 201 #[x.v, .pointer (some ⟨g, 0, none⟩)] w fun e w' => e = .returned (.bool (decide (x.q = q))) ∧ Kept No w w' := by
  obtain ⟨p, b, o, q'⟩ := x
  have HK : Hid (Kept No w (w.alloc (.cells #[.int .i64 p, .int .i64 b, .int .i64 o, .int .i64 q'] 39))) := (Kept.refl No w).alloc _
  have h' := HK.out.cell h (fun h => h)
  show Calls Tryz.prog 201 #[.agg #[.int .i64 p, .int .i64 b, .int .i64 o, .int .i64 q'], .pointer (some ⟨g, 0, none⟩)] w fun e w' => e = .returned (.bool (decide (q' = q))) ∧ Kept No w w'
  clear h
  go_enter Tryz.func201, Tryz.ntmps201
  go_wp2
  go_ret
  exact ⟨rfl, HK.out⟩

/-- the first place whose priority is q, or -1 -/
def idxF (xs : List Srv) (q : Int) : Nat → Int
  | 0 => -1
  | k + 1 => if idxF xs q k = -1 then (if (xs.getD k ⟨0, 0, 0, 0⟩).q = q then k else -1) else idxF xs q k
theorem idxF_hit {xs : List Srv} {q : Int} {k : Nat} (h : idxF xs q k = -1) (he : (xs.getD k ⟨0, 0, 0, 0⟩).q = q) : ∀ n, k < n → idxF xs q n = k
  | 0, hn => by omega
  | n + 1, hn => by
    rcases Nat.lt_or_eq_of_le (Nat.lt_succ_iff.1 hn) with h1 | h1
    · have ih := idxF_hit h he n h1
      rw [idxF, ih, if_neg (by omega)]
    · subst h1; rw [idxF, if_pos h, if_pos he]
theorem idxF_miss {xs : List Srv} {q : Int} {k : Nat} (h : idxF xs q k = -1) (he : ¬ (xs.getD k ⟨0, 0, 0, 0⟩).q = q) : idxF xs q (k + 1) = -1 := by rw [idxF, if_pos h, if_neg he]

set_option maxHeartbeats 4000000 in
theorem index_any (F : Nat → Prop) (a : Option Addr) (n c : Nat) (xs : List Srv) (g : Nat) (q : Int) (w : World) (h : Sv w F a n c xs) (hg : w.cell? ⟨g, 3, none⟩ = some (.int .i64 q)) :
    Calls Tryz.prog 215 #[.slice a n c, .func (.func 201) #[] #[.pointer (some ⟨g, 0, none⟩)]] w fun e w' => e = .returned (.int .i64 (idxF xs q n)) ∧ Kept No w w' := by
  have hn : n ≤ 9223372036854775807 := Nat.le_trans h.cap h.max
  have H : Hid (Sv w F a n c xs) := h
  have HG : Hid (w.cell? ⟨g, 3, none⟩ = some (.int .i64 q)) := hg
  clear h hg
  go_enter Tryz.func215, Tryz.ntmps215
  go_wp2
  go_loopw [8] (fun x wr => ∃ k : Nat, k ≤ n ∧ x = .int .i64 k ∧ Kept No w wr ∧ idxF xs q k = -1) (fun x _ => n - (intOf x).toNat)
  case atStart => exact ⟨0, by omega, rfl, Kept.refl No w, rfl⟩
  case round =>
    obtain ⟨k, hk, rfl, hkr, hno⟩ := hrel
    have HNO : Hid (idxF xs q k = -1) := hno
    have HKR : Hid (Kept No w wr) := hkr
    clear hno
    by_cases hlt : k < n
    · have hx : xs[k]? = some (xs.getD k ⟨0, 0, 0, 0⟩) := by rw [List.getD, List.getElem?_eq_getElem (by rw [H.out.len]; exact hlt)]; rfl
      obtain ⟨hok, b, o, rfl, hb, c0, c1, c2, c3⟩ := (H.out.keep hkr).at' k _ hx
      have hc := own1 (xs.getD k ⟨0, 0, 0, 0⟩) g q wr (hkr.cell HG.out (fun h => h))
      clear hx hok hkr
      by_cases he : (xs.getD k ⟨0, 0, 0, 0⟩).q = q
      · have HF : Hid (idxF xs q n = k) := idxF_hit HNO.out he n hlt
        rw [show decide ((xs.getD k ⟨0, 0, 0, 0⟩).q = q) = true by simp only [he, decide_true]] at hc
        clear he HNO
        generalize xs.getD k ⟨0, 0, 0, 0⟩ = y at *
        obtain ⟨yp, yb, yo, yq⟩ := y
        simp only [Srv.v] at c0 c1 c2 c3 hc
        go_wp2_with (go_at_call 201; refine hc.mono ?_; rintro e w' ⟨rfl, hk2⟩; have HW6 : Hid (Kept No w w') := HKR.out.trans hk2 (fun _ h => h.elim); clear hk2)
        go_ret
        exact ⟨by rw [HF.out]; rfl, HW6.out⟩
      · have HF : Hid (idxF xs q (k + 1) = -1) := idxF_miss HNO.out he
        rw [show decide ((xs.getD k ⟨0, 0, 0, 0⟩).q = q) = false by simp only [he, decide_false]] at hc
        clear he HNO
        generalize xs.getD k ⟨0, 0, 0, 0⟩ = y at *
        obtain ⟨yp, yb, yo, yq⟩ := y
        simp only [Srv.v] at c0 c1 c2 c3 hc
        go_wp2_with (go_at_call 201; refine hc.mono ?_; rintro e w' ⟨rfl, hk2⟩; have HW6 : Hid (Kept No w w') := HKR.out.trans hk2 (fun _ h => h.elim); clear hk2)
        go_roundw
        case rel => exact ⟨k + 1, by omega, by go_num, HW6.out, HF.out⟩
        case measure => simp [intOf]; omega
    · have hke : k = n := by omega
      subst hke
      clear hkr
      go_wp2
      go_ret
      exact ⟨by rw [HNO.out]; rfl, HKR.out⟩

theorem idx_ge (xs : List Srv) (q : Int) : ∀ k, -1 ≤ idxF xs q k
  | 0 => by simp [idxF]
  | k + 1 => by rw [idxF]; have := idx_ge xs q k; split <;> (try split) <;> omega

theorem contains_any (F : Nat → Prop) (a : Option Addr) (n c : Nat) (xs : List Srv) (g : Nat) (q : Int) (w : World) (h : Sv w F a n c xs) (hg : w.cell? ⟨g, 3, none⟩ = some (.int .i64 q)) :
    Calls Tryz.prog 200 #[.slice a n c, .func (.func 201) #[] #[.pointer (some ⟨g, 0, none⟩)]] w fun e w' => e = .returned (.bool (decide (0 ≤ idxF xs q n))) ∧ Kept No w w' := by
  have hc := index_any F a n c xs g q w h hg
  clear h hg
  generalize idxF xs q n = z at *
  go_enter Tryz.func200, Tryz.ntmps200
  go_wp2_with (go_at_call 215; refine hc.mono ?_; rintro e w' ⟨rfl, hk2⟩; have HW6 : Hid (Kept No w w') := hk2; clear hk2)
  go_ret
  exact ⟨rfl, HW6.out⟩

theorem srow5 (F : Nat → Prop) (a : Option Addr) (n c : Nat) (xs : List Srv) (x : Srv) (w : World) (h : Sv w F a n c xs) :
    Calls Tryz.prog 165 #[x.v, .slice a n c] w fun e w' => e = .returned (.bool (!decide (0 ≤ idxF xs x.q n))) ∧ Kept No w w' := by
  obtain ⟨p, b, o, q⟩ := x
  have HK : Hid (Kept No w (w.alloc (.cells #[.int .i64 p, .int .i64 b, .int .i64 o, .int .i64 q] 39))) := (Kept.refl No w).alloc _
  have hc := contains_any F a n c xs w.heap.size q _ (h.keep HK.out) (by simp)
  have hmf : ∀ (fn : Fn) (first cap : Array Value) (w : World), (Instr.makeFunc fn first cap).run Tryz.prog w = .ok (.func fn first cap) w := fun _ _ _ _ => rfl
  show Calls Tryz.prog 165 #[.agg #[.int .i64 p, .int .i64 b, .int .i64 o, .int .i64 q], .slice a n c] w fun e w' => e = .returned (.bool (!decide (0 ≤ idxF xs q n))) ∧ Kept No w w'
  clear h
  generalize decide (0 ≤ idxF xs q n) = z at *
  go_enter Tryz.func165, Tryz.ntmps165
  go_wp2_with (go_at_call 200; refine hc.mono ?_; rintro e w' ⟨rfl, hk2⟩; have HW6 : Hid (Kept No w w') := HK.out.trans hk2 (fun _ h => h.elim); clear hk2)
  go_ret
  exact ⟨rfl, HW6.out⟩

theorem lrow1 (a : Option Addr) (n c : Nat) (w : World) (hn : n ≤ 9223372036854775807) :
    Calls Tryz.prog 159 #[.slice a n c] w fun e w' => e = .returned (.bool (decide (n ≤ 32))) ∧ Kept No w w' := by
  have HK : Hid (Kept No w w) := Kept.refl No w
  by_cases h : n ≤ 32
  · rw [show decide (n ≤ 32) = true by simp [h]]
    go_enter Tryz.func159, Tryz.ntmps159
    go_wp2
    go_ret
    exact ⟨by simp; omega, HK.out⟩
  · rw [show decide (n ≤ 32) = false by simp [h]]
    go_enter Tryz.func159, Tryz.ntmps159
    go_wp2
    go_ret
    exact ⟨by simp; omega, HK.out⟩
end Go.Proofs.YtnmhcnppdhdhfaaGreatDoor

namespace Go.Proofs.YtnmhcnppdhdhfaaGreatDoor
open Go.RowKit
set_option linter.unusedVariables false
set_option maxRecDepth 100000

theorem findsSv_alone (err : Int) (k : Nat) (caps : Array Value) (x : Srv) (aa : Option Addr) (an ac : Nat) (w : World) (hen : Enters Tryz.prog k) (b : Bool)
    (hc : ∀ w', Kept No w w' → Calls Tryz.prog k (#[x.v] ++ caps) w' fun e w'' => e = .returned (.bool b) ∧ Kept No w' w'') :
    Calls Tryz.prog 160 #[.agg #[.int .i64 err, .func (.func k) #[] caps, .nilFunc, .nilFunc], x.v, .slice aa an ac] w fun e w' => e = .returned (.int .i64 (if b then 0 else err)) ∧ Kept No w w' := by
  cases b
  · exact findsSv_alone_false err k caps x.p x.b x.o x.q aa an ac w hen hc
  · exact findsSv_alone_true err k caps x.p x.b x.o x.q aa an ac w hen hc
theorem findsSv_behind (err : Int) (k : Nat) (caps : Array Value) (x : Srv) (aa : Option Addr) (an ac : Nat) (w : World) (hen : Enters Tryz.prog k) (b : Bool)
    (hc : ∀ w', Kept No w w' → Calls Tryz.prog k (#[x.v, .slice aa an ac] ++ caps) w' fun e w'' => e = .returned (.bool b) ∧ Kept No w' w'') :
    Calls Tryz.prog 160 #[.agg #[.int .i64 err, .nilFunc, .func (.func k) #[] caps, .nilFunc], x.v, .slice aa an ac] w fun e w' => e = .returned (.int .i64 (if b then 0 else err)) ∧ Kept No w w' := by
  cases b
  · exact findsSv_behind_false err k caps x.p x.b x.o x.q aa an ac w hen hc
  · exact findsSv_behind_true err k caps x.p x.b x.o x.q aa an ac w hen hc
theorem findsSl_alone (err : Int) (k : Nat) (caps : Array Value) (la : Option Addr) (ln lc : Nat) (aa : Option Addr) (an ac : Nat) (w : World) (hen : Enters Tryz.prog k) (b : Bool)
    (hc : ∀ w', Kept No w w' → Calls Tryz.prog k (#[.slice la ln lc] ++ caps) w' fun e w'' => e = .returned (.bool b) ∧ Kept No w' w'') :
    Calls Tryz.prog 166 #[.agg #[.int .i64 err, .func (.func k) #[] caps, .nilFunc, .nilFunc], .slice la ln lc, .slice aa an ac] w fun e w' => e = .returned (.int .i64 (if b then 0 else err)) ∧ Kept No w w' := by
  cases b
  · exact findsSl_alone_false err k caps la ln lc aa an ac w hen hc
  · exact findsSl_alone_true err k caps la ln lc aa an ac w hen hc

/-- the rows of servers -/
def rsS : Nat → Rw
  | 0 => ⟨101, .func (.func 161) #[] #[], .nilFunc, .nilFunc, rfl, rfl, rfl⟩
  | 1 => ⟨101, .func (.func 162) #[] #[], .nilFunc, .nilFunc, rfl, rfl, rfl⟩
  | 2 => ⟨101, .func (.func 163) #[] #[], .nilFunc, .nilFunc, rfl, rfl, rfl⟩
  | 3 => ⟨101, .func (.func 164) #[] #[], .nilFunc, .nilFunc, rfl, rfl, rfl⟩
  | _ => ⟨101, .nilFunc, .func (.func 165) #[] #[], .nilFunc, rfl, rfl, rfl⟩
def bS (xs : List Srv) (i : Nat) : Nat → Bool
  | 0 => inB (xs.getD i ⟨0, 0, 0, 0⟩).p 1 1048576
  | 1 => inB (xs.getD i ⟨0, 0, 0, 0⟩).b 1 (xs.getD i ⟨0, 0, 0, 0⟩).p
  | 2 => inB (xs.getD i ⟨0, 0, 0, 0⟩).o 0 (wrap64 ((xs.getD i ⟨0, 0, 0, 0⟩).p - 1))
  | 3 => inB (xs.getD i ⟨0, 0, 0, 0⟩).q 0 255
  | _ => !decide (0 ≤ idxF (xs.take i) (xs.getD i ⟨0, 0, 0, 0⟩).q i)
/-- the cells of a table of five rows and of one -/
theorem table5 (w : World) : Calls Tryz.prog 88 #[] w fun e w' => ∃ tb, e = .returned (.slice (some ⟨tb, 0, none⟩) 5 5) ∧ Tb w' tb 5 rsS ∧ Kept No w w' := by
  have HK : Hid (∀ o, Kept No w (w.alloc o)) := fun o => (Kept.refl No w).alloc o
  go_enter Tryz.func88, Tryz.ntmps88
  go_wp2
  go_ret
  refine ⟨_, rfl, ?_, HK.out _⟩
  intro j hj
  match j, hj with
  | 0, _ => exact ⟨by simp [rsS], by simp [rsS], by simp [rsS], by simp [rsS]⟩
  | 1, _ => exact ⟨by simp [rsS], by simp [rsS], by simp [rsS], by simp [rsS]⟩
  | 2, _ => exact ⟨by simp [rsS], by simp [rsS], by simp [rsS], by simp [rsS]⟩
  | 3, _ => exact ⟨by simp [rsS], by simp [rsS], by simp [rsS], by simp [rsS]⟩
  | 4, _ => exact ⟨by simp [rsS], by simp [rsS], by simp [rsS], by simp [rsS]⟩
def rsL : Nat → Rw
  | _ => ⟨100, .func (.func 159) #[] #[], .nilFunc, .nilFunc, rfl, rfl, rfl⟩
theorem table1 (w : World) : Calls Tryz.prog 86 #[] w fun e w' => ∃ tb, e = .returned (.slice (some ⟨tb, 0, none⟩) 1 1) ∧ Tb w' tb 1 rsL ∧ Kept No w w' := by
  have HK : Hid (∀ o, Kept No w (w.alloc o)) := fun o => (Kept.refl No w).alloc o
  go_enter Tryz.func86, Tryz.ntmps86
  go_wp2
  go_ret
  refine ⟨_, rfl, ?_, HK.out _⟩
  intro j hj
  match j, hj with
  | 0, _ => exact ⟨by simp [rsL], by simp [rsL], by simp [rsL], by simp [rsL]⟩

/-- the first server that may not be -/
def servF (xs : List Srv) (n : Nat) : Option (Int × Int) := eachF (fun i => rowsF (fun j => if bS xs i j then 0 else 101) 5) 1 n
def findF (xs : List Srv) (n : Nat) : Option (Int × Int) := if n ≤ 32 then servF xs n else some (100, 0)

theorem each_servers (F : Nat → Prop) (a : Option Addr) (n c : Nat) (xs : List Srv) (tb : Nat) (w : World) (h : Sv w F a n c xs) (hT : Tb w tb 5 rsS) :
    Calls Tryz.prog 87 #[.slice a n c, .int .i64 1, .slice (some ⟨tb, 0, none⟩) 5 5] w fun e w' => e = .returned (fv (servF xs n)) ∧ Kept No w w' := by
  refine eachSv F 1 a n c xs tb 5 5 rsS (fun i j => if bS xs i j then 0 else 101) w h (by omega) hT (by omega) (by omega) ?_
  intro i j w' hi hj hw
  match j, hj with
  | 0, _ => exact findsSv_alone 101 _ #[] _ a i c w' (enters_of Tryz.func161 (by kernel_rfl) rfl) _ (fun w2 _ => srow1 _ w2)
  | 1, _ => exact findsSv_alone 101 _ #[] _ a i c w' (enters_of Tryz.func162 (by kernel_rfl) rfl) _ (fun w2 _ => srow2 _ w2)
  | 2, _ => exact findsSv_alone 101 _ #[] _ a i c w' (enters_of Tryz.func163 (by kernel_rfl) rfl) _ (fun w2 _ => srow3 _ w2)
  | 3, _ => exact findsSv_alone 101 _ #[] _ a i c w' (enters_of Tryz.func164 (by kernel_rfl) rfl) _ (fun w2 _ => srow4 _ w2)
  | 4, _ => exact findsSv_behind 101 _ #[] _ a i c w' (enters_of Tryz.func165 (by kernel_rfl) rfl) _ (fun w2 hw2 => srow5 F a i c (xs.take i) _ w2 (((h.keep hw).keep hw2).take i (by omega)))

theorem whole_any (la : Option Addr) (ln lc tb m : Nat) (rs : Nat → Rw) (E : Nat → Int) (w : World) (hm : m ≤ 1000) (hT : Tb w tb m rs)
    (hE : ∀ j w' aa, j < m → Kept No w w' → Calls Tryz.prog 166 #[(rs j).v, .slice la ln lc, .slice aa 0 1] w' fun e w'' => e = .returned (.int .i64 (E j)) ∧ Kept No w' w'') :
    Calls Tryz.prog 55 #[.slice la ln lc, .slice (some ⟨tb, 0, none⟩) m m] w fun e w' => e = .returned (fv (if rowsF E m = 0 then none else some (rowsF E m, 0))) ∧ Kept No w w' := by
  have HK : Hid (Kept No w (w.alloc (.cells #[.slice la ln lc] 36))) := (Kept.refl No w).alloc _
  have hc := eachSl (fun _ => True) 0 la ln lc w.heap.size tb m m rs (fun _ j => E j) (w.alloc (.cells #[.slice la ln lc] 36)) (by simp) hm (hT.kept HK.out) (by omega) (by omega) (fun i j w' hi hj hw => by
    obtain rfl : i = 0 := by omega
    exact hE j w' _ hj (HK.out.trans hw (fun _ h => h.elim)))
  have e1 : eachF (fun i => rowsF E m) 0 1 = (if rowsF E m = 0 then none else some (rowsF E m, 0)) := by
    simp [eachF]
  rw [e1] at hc
  clear hE hT
  generalize (if rowsF E m = 0 then none else some (rowsF E m, (0 : Int))) = z at *
  go_enter Tryz.func55, Tryz.ntmps55
  go_wp2_with (go_at_call 89; refine hc.mono ?_; rintro e w' ⟨rfl, hk2⟩; have HW6 : Hid (Kept No w w') := HK.out.trans hk2 (fun _ h => h.elim); clear hk2)
  go_ret
  exact ⟨rfl, HW6.out⟩

theorem fv_neq (o : Option (Int × Int)) (w : World) : (binOp .neq 97 (fv o) .nilIface).run Tryz.prog w = .ok (.bool o.isSome) w := by
  cases o
  · kernel_rfl
  · rename_i p
    obtain ⟨x, y⟩ := p
    kernel_rfl

set_option maxHeartbeats 2000000 in
theorem findServer_any (F : Nat → Prop) (a : Option Addr) (n c : Nat) (xs : List Srv) (w : World) (h : Sv w F a n c xs) :
    Calls Tryz.prog 54 #[.slice a n c] w fun e w' => e = .returned (fv (findF xs n)) ∧ Kept No w w' := by
  have hn : n ≤ 9223372036854775807 := Nat.le_trans h.cap h.max
  have H1 : Hid (∀ w', Kept No w w' → ∀ tb, Tb w' tb 1 rsL → Calls Tryz.prog 55 #[.slice a n c, .slice (some ⟨tb, 0, none⟩) 1 1] w' fun e w'' => e = .returned (fv (if n ≤ 32 then none else some (100, 0))) ∧ Kept No w' w'') := fun w' hw tb hT => by
    have := whole_any a n c tb 1 rsL (fun _ => if decide (n ≤ 32) then 0 else 100) w' (by omega) hT (fun j w2 aa hj hw2 => findsSl_alone 100 _ #[] a n c aa 0 1 w2 (enters_of Tryz.func159 (by kernel_rfl) rfl) _ (fun w3 _ => lrow1 a n c w3 hn))
    by_cases h32 : n ≤ 32
    · simpa [rowsF, h32] using this
    · simpa [rowsF, h32] using this
  have H2 : Hid (∀ w', Kept No w w' → ∀ tb, Tb w' tb 5 rsS → Calls Tryz.prog 87 #[.slice a n c, .int .i64 1, .slice (some ⟨tb, 0, none⟩) 5 5] w' fun e w'' => e = .returned (fv (servF xs n)) ∧ Kept No w' w'') := fun w' hw tb hT => each_servers F a n c xs tb w' (h.keep hw) hT
  clear h
  by_cases h32 : n ≤ 32
  · have HF : Hid (findF xs n = servF xs n) := by show findF xs n = servF xs n; unfold findF; rw [if_pos h32]
    rw [HF.out]
    have q1 := fv_neq none
    rw [show fv none = Value.nilIface from rfl] at q1
    simp only [Option.isSome] at q1
    generalize servF xs n = z at *
    go_enter Tryz.func54, Tryz.ntmps54
    go_wp2_with (first
      | (go_at_call 86; refine (table1 _).mono ?_; rintro e w1 ⟨tb, rfl, hT, hk1⟩; have HK1 : Hid (Kept No w w1) := hk1; have hc1 := H1.out w1 hk1 tb hT; rw [if_pos h32] at hc1; clear hT hk1)
      | (go_at_call 55; refine hc1.mono ?_; rintro e w2 ⟨rfl, hk2⟩; have HK2 : Hid (Kept No w w2) := HK1.out.trans hk2 (fun _ h => h.elim); clear hk2 hc1 HK1; rw [show fv none = Value.nilIface from rfl])
      | (go_at_call 88; refine (table5 _).mono ?_; rintro e w3 ⟨tb3, rfl, hT, hk1⟩; have HK3 : Hid (Kept No w w3) := HK2.out.trans hk1 (fun _ h => h.elim); have hc3 := H2.out w3 HK3.out tb3 hT; clear hT hk1)
      | (go_at_call 87; refine hc3.mono ?_; rintro e w4 ⟨rfl, hk2⟩; have HK4 : Hid (Kept No w w4) := HK3.out.trans hk2 (fun _ h => h.elim); clear hk2 hc3))
    go_ret
    exact ⟨rfl, HK4.out⟩
  · have HF : Hid (findF xs n = some (100, 0)) := by show findF xs n = some (100, 0); unfold findF; rw [if_neg h32]
    rw [HF.out]
    rw [show fv (some (100, 0)) = Value.iface 123 (.agg #[.int .i64 100, .int .i64 0]) from rfl]
    go_enter Tryz.func54, Tryz.ntmps54
    go_wp2_with (first
      | (go_at_call 86; refine (table1 _).mono ?_; rintro e w1 ⟨tb, rfl, hT, hk1⟩; have HK1 : Hid (Kept No w w1) := hk1; have hc1 := H1.out w1 hk1 tb hT; rw [if_neg h32, show fv (some (100, 0)) = Value.iface 123 (.agg #[.int .i64 100, .int .i64 0]) from rfl] at hc1; clear hT hk1)
      | (go_at_call 55; refine hc1.mono ?_; rintro e w2 ⟨rfl, hk2⟩; have HK2 : Hid (Kept No w w2) := HK1.out.trans hk2 (fun _ h => h.elim); clear hk2 hc1 HK1))
    go_ret
    exact ⟨rfl, HK2.out⟩

end Go.Proofs.YtnmhcnppdhdhfaaGreatDoor
