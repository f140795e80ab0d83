/-
  One text: CEachL, CRow.
-/
import Derived.Test.YtibmgpinfdcaoaaGreatDoorHCEach
namespace Go.Proofs.YtibmgpinfdcaoaaGreatDoor
open Go.RowKit
set_option linter.unusedVariables false
set_option maxRecDepth 100000

theorem er_cutSl {w : World} {a : Act} {o : Oper} (x y : Operand) (ho : o.op = .slice 104 x none (some y) none) (b off n c k : Nat) (hk : k ≤ c) (hc : c ≤ 9223372036854775807) (hx : a.eval x = .slice (some ⟨b, off, none⟩) n c) (hy : a.eval y = .int .i64 k) : (execOp a.eval o).run Tryz.prog w = .ok (.value (.slice (some ⟨b, off, none⟩) k c)) w := by
  simp only [execOp, ho, Option.map_none, Option.map_some, hx, hy]
  simp [go_sem, hk]
  try omega
theorem quiet_findsSl {C : World → Prop} {a : Act} {o : Oper} {K : Act → Prop} (x0 x1 x2 : Operand) (ho : o.op = .call { callee := .value (.func 91), args := #[x0, x1, x2], argTypes := #[108, 22, 104] }) (v0 v1 v2 v : Value) (h0 : a.eval x0 = v0) (h1 : a.eval x1 = v1) (h2 : a.eval x2 = v2)
    (hc : ∀ w, C w → Calls Tryz.prog 91 #[v0, v1, v2] w fun e w'' => e = .returned v ∧ C w'') (hk : K (a.put o.dst v)) : o.quiet Tryz.prog a C K :=
  quiet_call' (f := 91) (args := #[v0, v1, v2]) (fun w => by subst h0 h1 h2; simp [execOp, ho, go_sem, Act.eval]) hc hk

set_option maxHeartbeats 16000000 in
theorem eachSl (F : Nat → Prop) (first : Int) (la : Option Addr) (ln lc lb : Nat) (tb m mc : Nat) (rs : Nat → Rw) (E : Nat → Nat → Int) (w : World) (h : w.cell? ⟨lb, 0, none⟩ = some (.slice la ln lc)) (hm : m ≤ 1000) (hT : Tb w tb m rs) (hf : 0 ≤ first) (hf2 : first ≤ 1)
    (hE : ∀ i j w', i < 1 → j < m → Kept No w w' → Calls Tryz.prog 91 #[(rs j).v, (.slice la ln lc), .slice (some ⟨lb, 0, none⟩) i 1] w' fun e w'' => e = .returned (.int .i64 (E i j)) ∧ Kept No w' w'') :
    Calls Tryz.prog 67 #[.slice (some ⟨lb, 0, none⟩) 1 1, .int .i64 first, .slice (some ⟨tb, 0, none⟩) m mc] w fun e w' => e = .returned (fv (eachF (fun i => rowsF (E i) m) first 1)) ∧ Kept No w w' := by
  have H : Hid (w.cell? ⟨lb, 0, none⟩ = some (.slice la ln lc)) := h
  have HT : Hid (Tb w tb m rs) := hT
  have HE : Hid (∀ i j w', i < 1 → j < m → Kept No w w' → Calls Tryz.prog 91 #[(rs j).v, (.slice la ln lc), .slice (some ⟨lb, 0, none⟩) i 1] w' fun e w'' => e = .returned (.int .i64 (E i j)) ∧ Kept No w' w'') := hE
  clear h hT hE
  go_enter Tryz.func67, Tryz.ntmps67
  go_wp2
  go_loopw [14] (fun x wr => ∃ k : Nat, k ≤ 1 ∧ x = .int .i64 k ∧ Kept No w wr ∧ eachF (fun i => rowsF (E i) m) first k = none) (fun x _ => 1 - (intOf x).toNat)
  case atStart => exact ⟨0, by omega, rfl, Kept.refl No w, rfl⟩
  case round =>
    obtain ⟨k, hk, rfl, hkr, hno⟩ := hrel
    by_cases hlt : k < 1
    · generalize wr = wo at *
      have HK0 : Hid (k = 0) := by show k = 0; omega
      have c0 : wo.cell? ⟨lb, k, none⟩ = some (.slice la ln lc) := by rw [HK0.out]; exact hkr.cell H.out (fun h => h)
      have HW : Hid (Kept No w wo) := hkr
      have HEk : Hid (∀ j w', j < m → Kept No w w' → Calls Tryz.prog 91 #[(rs j).v, .slice la ln lc, .slice (some ⟨lb, 0, none⟩) k 1] w' fun e w'' => e = .returned (.int .i64 (E k j)) ∧ Kept No w' w'') := fun j w' hj hw => HE.out k j w' hlt hj hw
      have HNO : Hid (eachF (fun i => rowsF (E i) m) first k = none) := hno
      have hcap : k ≤ 1 := by omega
      have hcm : (1 : Nat) ≤ 9223372036854775807 := by omega
      clear hno hkr
      go_upto_region 4 with fail
      clear c0
      generalize wo = w1 at *
      go_wp2
      go_loopw [21] (fun y wr => ∃ j : Nat, j ≤ m ∧ y = .int .i64 j ∧ Kept No w1 wr ∧ rowsF (E k) j = 0) (fun y _ => m - (intOf y).toNat)
      case atStart => exact ⟨0, by omega, rfl, Kept.refl No _, rfl⟩
      case round =>
        obtain ⟨j, hj, rfl, hkr2, hno2⟩ := hrel
        have HR0 : Hid (rowsF (E k) j = 0) := hno2
        clear hno2
        by_cases hjt : j < m
        · obtain ⟨t0, t1, t2, t3⟩ := ((HT.out.kept HW.out).kept hkr2) j hjt
          have HK2 : Hid (Kept No w1 (wr.alloc (.cells #[.int .i64 (rs j).err, (rs j).f1, (rs j).f2, (rs j).f3] 108))) := hkr2.alloc _
          have HRW : Hid (∀ w5, Kept No (wr.alloc (.cells #[.int .i64 (rs j).err, (rs j).f1, (rs j).f2, (rs j).f3] 108)) w5 → (Instr.loadAt 108 (.pointer (some ⟨wr.heap.size, 0, none⟩))).run Tryz.prog w5 = .ok (rs j).v w5) := fun w5 h5 => by
            have z0 := h5.cell (p := ⟨wr.heap.size, 0, none⟩) (v := .int .i64 (rs j).err) (by simp) (fun h => h)
            have z1 := h5.cell (p := ⟨wr.heap.size, 1, none⟩) (v := (rs j).f1) (by simp) (fun h => h)
            have z2 := h5.cell (p := ⟨wr.heap.size, 2, none⟩) (v := (rs j).f2) (by simp) (fun h => h)
            have z3 := h5.cell (p := ⟨wr.heap.size, 3, none⟩) (v := (rs j).f3) (by simp) (fun h => h)
            simp [go_sem, z0, z1, z2, z3, Rw.v]
          have HEj : Hid (∀ w', Kept No w1 w' → Calls Tryz.prog 91 #[(rs j).v, .slice la ln lc, .slice (some ⟨lb, 0, none⟩) k 1] w' fun e w'' => e = .returned (.int .i64 (E k j)) ∧ Kept No w' w'') := fun w' hw => HEk.out j w' hjt (HW.out.trans hw (fun _ h => h.elim))
          have HW0 : Hid (Kept No w w1) := HW.out
          clear hkr2 HW HEk HT HE H 
          have s1 : ∀ (ad : Addr) (mo : Mode) (W : World), (store ad (rs j).f1 mo).run Tryz.prog W = stored Tryz.prog W ad (rs j).f1 mo := fun ad mo W => run_store _ _ _ _ _ (rs j).h1
          have s2 : ∀ (ad : Addr) (mo : Mode) (W : World), (store ad (rs j).f2 mo).run Tryz.prog W = stored Tryz.prog W ad (rs j).f2 mo := fun ad mo W => run_store _ _ _ _ _ (rs j).h2
          have s3 : ∀ (ad : Addr) (mo : Mode) (W : World), (store ad (rs j).f3 mo).run Tryz.prog W = stored Tryz.prog W ad (rs j).f3 mo := fun ad mo W => run_store _ _ _ _ _ (rs j).h3
          go_upto_region 7 with fail
          clear t0 t1 t2 t3 s1 s2 s3
          generalize hW2 : wr.alloc (.cells #[.int .i64 (rs j).err, (rs j).f1, (rs j).f2, (rs j).f3] 108) = w2 at *
          clear hW2
          refine wp_region_kept w2 (by kernel_rfl) (by kernel_rfl) (Kept.refl No w2) ?_
          refine BigFrame.wpQuiet_want rfl (fun K hK => ?_)
          refine quiet_val' (fun w5 hw5 => er_ld _ _ rfl _ _ rfl (HRW.out w5 hw5)) ?_
          refine hK _ ?_
          clear hK K
          simp only [Act.put, List.setIfInBounds_toArray, List.set_cons_zero, List.set_cons_succ]
          refine BigFrame.wpQuiet_want rfl (fun K hK => ?_)
          refine quiet_val' (fun w5 hw5 => er_mv _ rfl (.slice la ln lc) rfl) ?_
          refine hK _ ?_
          clear hK K
          simp only [Act.put, List.setIfInBounds_toArray, List.set_cons_zero, List.set_cons_succ]
          refine BigFrame.wpQuiet_want rfl (fun K hK => ?_)
          refine quiet_val' (fun w5 hw5 => er_mv _ rfl (.slice (some ⟨lb, 0, none⟩) 1 1) rfl) ?_
          refine hK _ ?_
          clear hK K
          simp only [Act.put, List.setIfInBounds_toArray, List.set_cons_zero, List.set_cons_succ]
          refine BigFrame.wpQuiet_want rfl (fun K hK => ?_)
          refine quiet_val' (fun w5 hw5 => er_mv _ rfl (.int .i64 k) rfl) ?_
          refine hK _ ?_
          clear hK K
          simp only [Act.put, List.setIfInBounds_toArray, List.set_cons_zero, List.set_cons_succ]
          refine BigFrame.wpQuiet_want rfl (fun K hK => ?_)
          refine quiet_val' (fun w5 hw5 => er_cutSl _ _ rfl lb 0 1 1 k hcap hcm rfl rfl) ?_
          refine hK _ ?_
          clear hK K
          simp only [Act.put, List.setIfInBounds_toArray, List.set_cons_zero, List.set_cons_succ]
          refine BigFrame.wpQuiet_want rfl (fun K hK => ?_)
          refine quiet_findsSl _ _ _ rfl (rs j).v (.slice la ln lc) (.slice (some ⟨lb, 0, none⟩) k 1) (.int .i64 (E k j)) rfl rfl rfl (fun w5 hw5 => (HEj.out w5 (HK2.out.trans hw5 (fun _ h => h.elim))).mono (fun e w6 he => ⟨he.1, hw5.trans he.2 (fun _ h => h.elim)⟩)) ?_
          refine hK _ ?_
          clear hK K
          simp only [Act.put, List.setIfInBounds_toArray, List.set_cons_zero, List.set_cons_succ]
          refine BigFrame.wpQuiet_want rfl (fun K hK => ?_)
          refine quiet_val' (fun w5 hw5 => er_as _ rfl (.int .i64 (E k j)) rfl) ?_
          refine hK _ ?_
          clear hK K
          simp only [Act.put, List.setIfInBounds_toArray, List.set_cons_zero, List.set_cons_succ]
          refine wpQuiet_nil ?_
          intro w6 hw6
          have HW6 : Hid (Kept No w1 w6) := HK2.out.trans hw6 (fun _ h => h.elim)
          clear hw6 HRW HEj HK2
          by_cases he : E k j = 0
          · have HR1 : Hid (rowsF (E k) (j + 1) = 0) := rowsF_miss HR0.out he
            have HE0 : Hid (E k j = 0) := he
            go_wp2
            go_roundw
            case rel => exact ⟨j + 1, by omega, by go_num, HW6.out, HR1.out⟩
            case measure => simp [intOf]; omega
          · have HF : Hid (eachF (fun i => rowsF (E i) m) first 1 = some (E k j, first + k)) := by
              have e1 := rowsF_hit HR0.out he m hjt
              have e2 := eachF_hit (r := fun i => rowsF (E i) m) HNO.out (by simp only [e1]; exact he) 1 hlt
              have e3 : eachF (fun i => rowsF (E i) m) first 1 = some (E k j, first + k) := by rw [e2]; simp only [e1]
              exact e3
            go_wp2
            go_ret
            exact ⟨by rw [HF.out]; rfl, HW0.out.trans HW6.out (fun _ h => h.elim)⟩
        · have hje : j = m := by omega
          subst hje
          have HN1 : Hid (eachF (fun i => rowsF (E i) j) first (k + 1) = none) := eachF_miss HNO.out HR0.out
          have HW6 : Hid (Kept No w wr) := HW.out.trans hkr2 (fun _ h => h.elim)
          clear hkr2 HW HEk HT HE H 
          go_wp2
          go_roundw
          case rel => exact ⟨k + 1, by omega, by go_num, HW6.out, HN1.out⟩
          case measure => simp [intOf]; omega
    · have hke : k = 1 := by omega
      subst hke
      have HF : Hid (eachF (fun i => rowsF (E i) m) first 1 = none) := hno
      have HW6 : Hid (Kept No w wr) := hkr
      clear hno hkr
      go_wp2
      go_ret
      exact ⟨by rw [HF.out]; rfl, HW6.out⟩

end Go.Proofs.YtibmgpinfdcaoaaGreatDoor

namespace Go.Proofs.YtibmgpinfdcaoaaGreatDoor
open Go.RowKit
set_option linter.unusedVariables false
set_option maxRecDepth 100000

def inB (n lo hi : Int) : Bool := decide (lo ≤ n) && decide (n ≤ hi)

theorem within_any (n lo hi : Int) (w : World) :
    Calls Tryz.prog 86 #[.int .i64 n, .int .i64 lo, .int .i64 hi] w fun e w' => e = .returned (.bool (inB n lo hi)) ∧ w' = w := by
  by_cases h : lo ≤ n
  · by_cases h2 : n ≤ hi
    · rw [show inB n lo hi = true by simp [inB, h, h2]]
      go_enter Tryz.func86, Tryz.ntmps86
      go_wp2
      go_ret
      exact ⟨rfl, rfl⟩
    · rw [show inB n lo hi = false by simp [inB, h2]]
      go_enter Tryz.func86, Tryz.ntmps86
      go_wp2
      go_ret
      exact ⟨rfl, rfl⟩
  · rw [show inB n lo hi = false by simp [inB, h]]
    go_enter Tryz.func86, Tryz.ntmps86
    go_wp2
    go_ret
    exact ⟨rfl, rfl⟩

theorem srow1 (x : Srv) (w : World) : Calls Tryz.prog 85 #[x.v] w fun e w' => e = .returned (.bool (inB x.p 1 1048576)) ∧ Kept No w w' := by
  obtain ⟨p, b, o, q⟩ := x
  have HK : Hid (Kept No w (w.alloc (.cells #[.int .i64 p, .int .i64 b, .int .i64 o, .int .i64 q] 40))) := (Kept.refl No w).alloc _
  show Calls Tryz.prog 85 #[.agg #[.int .i64 p, .int .i64 b, .int .i64 o, .int .i64 q]] w fun e w' => e = .returned (.bool (inB p 1 1048576)) ∧ Kept No w w'
  go_enter Tryz.func85, Tryz.ntmps85
  go_wp2_with (go_at_call 86; refine (within_any _ _ _ _).mono ?_; rintro e w' ⟨rfl, rfl⟩)
  go_ret
  exact ⟨rfl, HK.out⟩
theorem srow2 (x : Srv) (w : World) : Calls Tryz.prog 87 #[x.v] w fun e w' => e = .returned (.bool (inB x.b 1 x.p)) ∧ Kept No w w' := by
  obtain ⟨p, b, o, q⟩ := x
  have HK : Hid (Kept No w (w.alloc (.cells #[.int .i64 p, .int .i64 b, .int .i64 o, .int .i64 q] 40))) := (Kept.refl No w).alloc _
  show Calls Tryz.prog 87 #[.agg #[.int .i64 p, .int .i64 b, .int .i64 o, .int .i64 q]] w fun e w' => e = .returned (.bool (inB b 1 p)) ∧ Kept No w w'
  go_enter Tryz.func87, Tryz.ntmps87
  go_wp2_with (go_at_call 86; refine (within_any _ _ _ _).mono ?_; rintro e w' ⟨rfl, rfl⟩)
  go_ret
  exact ⟨rfl, HK.out⟩
theorem srow3 (x : Srv) (w : World) : Calls Tryz.prog 88 #[x.v] w fun e w' => e = .returned (.bool (inB x.o 0 (wrap64 (x.p - 1)))) ∧ Kept No w w' := by
  obtain ⟨p, b, o, q⟩ := x
  have HK : Hid (Kept No w (w.alloc (.cells #[.int .i64 p, .int .i64 b, .int .i64 o, .int .i64 q] 40))) := (Kept.refl No w).alloc _
  show Calls Tryz.prog 88 #[.agg #[.int .i64 p, .int .i64 b, .int .i64 o, .int .i64 q]] w fun e w' => e = .returned (.bool (inB o 0 (wrap64 (p - 1)))) ∧ Kept No w w'
  go_enter Tryz.func88, Tryz.ntmps88
  go_wp2_with (go_at_call 86; refine (within_any _ _ _ _).mono ?_; rintro e w' ⟨rfl, rfl⟩)
  go_ret
  exact ⟨rfl, HK.out⟩
theorem srow4 (x : Srv) (w : World) : Calls Tryz.prog 89 #[x.v] w fun e w' => e = .returned (.bool (inB x.q 0 255)) ∧ Kept No w w' := by
  obtain ⟨p, b, o, q⟩ := x
  have HK : Hid (Kept No w (w.alloc (.cells #[.int .i64 p, .int .i64 b, .int .i64 o, .int .i64 q] 40))) := (Kept.refl No w).alloc _
  show Calls Tryz.prog 89 #[.agg #[.int .i64 p, .int .i64 b, .int .i64 o, .int .i64 q]] w fun e w' => e = .returned (.bool (inB q 0 255)) ∧ Kept No w w'
  go_enter Tryz.func89, Tryz.ntmps89
  go_wp2_with (go_at_call 86; refine (within_any _ _ _ _).mono ?_; rintro e w' ⟨rfl, rfl⟩)
  go_ret
  exact ⟨rfl, HK.out⟩

/-- has the block g a server of that priority? -/
theorem own1 (x : Srv) (g : Nat) (q : Int) (w : World) (h : w.cell? ⟨g, 3, none⟩ = some (.int .i64 q)) :
    Calls Tryz.prog 100 #[x.v, .pointer (some ⟨g, 0, none⟩)] w fun e w' => e = .returned (.bool (decide (x.q = q))) ∧ Kept No w w' := by
  obtain ⟨p, b, o, q'⟩ := x
  have HK : Hid (Kept No w (w.alloc (.cells #[.int .i64 p, .int .i64 b, .int .i64 o, .int .i64 q'] 40))) := (Kept.refl No w).alloc _
  have h' := HK.out.cell h (fun h => h)
  show Calls Tryz.prog 100 #[.agg #[.int .i64 p, .int .i64 b, .int .i64 o, .int .i64 q'], .pointer (some ⟨g, 0, none⟩)] w fun e w' => e = .returned (.bool (decide (q' = q))) ∧ Kept No w w'
  clear h
  go_enter Tryz.func100, Tryz.ntmps100
  go_wp2
  go_ret
  exact ⟨rfl, HK.out⟩

/-- the first place whose priority is q, or -1 -/
def idxF (xs : List Srv) (q : Int) : Nat → Int
  | 0 => -1
  | k + 1 => if idxF xs q k = -1 then (if (xs.getD k ⟨0, 0, 0, 0⟩).q = q then k else -1) else idxF xs q k
theorem idxF_hit {xs : List Srv} {q : Int} {k : Nat} (h : idxF xs q k = -1) (he : (xs.getD k ⟨0, 0, 0, 0⟩).q = q) : ∀ n, k < n → idxF xs q n = k
  | 0, hn => by omega
  | n + 1, hn => by
    rcases Nat.lt_or_eq_of_le (Nat.lt_succ_iff.1 hn) with h1 | h1
    · have ih := idxF_hit h he n h1
      rw [idxF, ih, if_neg (by omega)]
    · subst h1; rw [idxF, if_pos h, if_pos he]
theorem idxF_miss {xs : List Srv} {q : Int} {k : Nat} (h : idxF xs q k = -1) (he : ¬ (xs.getD k ⟨0, 0, 0, 0⟩).q = q) : idxF xs q (k + 1) = -1 := by rw [idxF, if_pos h, if_neg he]

set_option maxHeartbeats 4000000 in
theorem index_any (F : Nat → Prop) (a : Option Addr) (n c : Nat) (xs : List Srv) (g : Nat) (q : Int) (w : World) (h : Sv w F a n c xs) (hg : w.cell? ⟨g, 3, none⟩ = some (.int .i64 q)) :
    Calls Tryz.prog 113 #[.slice a n c, .func (.func 100) #[] #[.pointer (some ⟨g, 0, none⟩)]] w fun e w' => e = .returned (.int .i64 (idxF xs q n)) ∧ Kept No w w' := by
  have hn : n ≤ 9223372036854775807 := Nat.le_trans h.cap h.max
  have H : Hid (Sv w F a n c xs) := h
  have HG : Hid (w.cell? ⟨g, 3, none⟩ = some (.int .i64 q)) := hg
  clear h hg
  go_enter Tryz.func113, Tryz.ntmps113
  go_wp2
  go_loopw [8] (fun x wr => ∃ k : Nat, k ≤ n ∧ x = .int .i64 k ∧ Kept No w wr ∧ idxF xs q k = -1) (fun x _ => n - (intOf x).toNat)
  case atStart => exact ⟨0, by omega, rfl, Kept.refl No w, rfl⟩
  case round =>
    obtain ⟨k, hk, rfl, hkr, hno⟩ := hrel
    have HNO : Hid (idxF xs q k = -1) := hno
    have HKR : Hid (Kept No w wr) := hkr
    clear hno
    by_cases hlt : k < n
    · have hx : xs[k]? = some (xs.getD k ⟨0, 0, 0, 0⟩) := by rw [List.getD, List.getElem?_eq_getElem (by rw [H.out.len]; exact hlt)]; rfl
      obtain ⟨hok, b, o, rfl, hb, c0, c1, c2, c3⟩ := (H.out.keep hkr).at' k _ hx
      have hc := own1 (xs.getD k ⟨0, 0, 0, 0⟩) g q wr (hkr.cell HG.out (fun h => h))
      clear hx hok hkr
      by_cases he : (xs.getD k ⟨0, 0, 0, 0⟩).q = q
      · have HF : Hid (idxF xs q n = k) := idxF_hit HNO.out he n hlt
        rw [show decide ((xs.getD k ⟨0, 0, 0, 0⟩).q = q) = true by simp only [he, decide_true]] at hc
        clear he HNO
        generalize xs.getD k ⟨0, 0, 0, 0⟩ = y at *
        obtain ⟨yp, yb, yo, yq⟩ := y
        simp only [Srv.v] at c0 c1 c2 c3 hc
        go_wp2_with (go_at_call 100; refine hc.mono ?_; rintro e w' ⟨rfl, hk2⟩; have HW6 : Hid (Kept No w w') := HKR.out.trans hk2 (fun _ h => h.elim); clear hk2)
        go_ret
        exact ⟨by rw [HF.out]; rfl, HW6.out⟩
      · have HF : Hid (idxF xs q (k + 1) = -1) := idxF_miss HNO.out he
        rw [show decide ((xs.getD k ⟨0, 0, 0, 0⟩).q = q) = false by simp only [he, decide_false]] at hc
        clear he HNO
        generalize xs.getD k ⟨0, 0, 0, 0⟩ = y at *
        obtain ⟨yp, yb, yo, yq⟩ := y
        simp only [Srv.v] at c0 c1 c2 c3 hc
        go_wp2_with (go_at_call 100; refine hc.mono ?_; rintro e w' ⟨rfl, hk2⟩; have HW6 : Hid (Kept No w w') := HKR.out.trans hk2 (fun _ h => h.elim); clear hk2)
        go_roundw
        case rel => exact ⟨k + 1, by omega, by go_num, HW6.out, HF.out⟩
        case measure => simp [intOf]; omega
    · have hke : k = n := by omega
      subst hke
      clear hkr
      go_wp2
      go_ret
      exact ⟨by rw [HNO.out]; rfl, HKR.out⟩

theorem idx_ge (xs : List Srv) (q : Int) : ∀ k, -1 ≤ idxF xs q k
  | 0 => by simp [idxF]
  | k + 1 => by rw [idxF]; have := idx_ge xs q k; split <;> (try split) <;> omega

theorem contains_any (F : Nat → Prop) (a : Option Addr) (n c : Nat) (xs : List Srv) (g : Nat) (q : Int) (w : World) (h : Sv w F a n c xs) (hg : w.cell? ⟨g, 3, none⟩ = some (.int .i64 q)) :
    Calls Tryz.prog 99 #[.slice a n c, .func (.func 100) #[] #[.pointer (some ⟨g, 0, none⟩)]] w fun e w' => e = .returned (.bool (decide (0 ≤ idxF xs q n))) ∧ Kept No w w' := by
  have hc := index_any F a n c xs g q w h hg
  clear h hg
  generalize idxF xs q n = z at *
  go_enter Tryz.func99, Tryz.ntmps99
  go_wp2_with (go_at_call 113; refine hc.mono ?_; rintro e w' ⟨rfl, hk2⟩; have HW6 : Hid (Kept No w w') := hk2; clear hk2)
  go_ret
  exact ⟨rfl, HW6.out⟩

theorem srow5 (F : Nat → Prop) (a : Option Addr) (n c : Nat) (xs : List Srv) (x : Srv) (w : World) (h : Sv w F a n c xs) :
    Calls Tryz.prog 90 #[x.v, .slice a n c] w fun e w' => e = .returned (.bool (!decide (0 ≤ idxF xs x.q n))) ∧ Kept No w w' := by
  obtain ⟨p, b, o, q⟩ := x
  have HK : Hid (Kept No w (w.alloc (.cells #[.int .i64 p, .int .i64 b, .int .i64 o, .int .i64 q] 40))) := (Kept.refl No w).alloc _
  have hc := contains_any F a n c xs w.heap.size q _ (h.keep HK.out) (by simp)
  have hmf : ∀ (fn : Fn) (first cap : Array Value) (w : World), (Instr.makeFunc fn first cap).run Tryz.prog w = .ok (.func fn first cap) w := fun _ _ _ _ => rfl
  show Calls Tryz.prog 90 #[.agg #[.int .i64 p, .int .i64 b, .int .i64 o, .int .i64 q], .slice a n c] w fun e w' => e = .returned (.bool (!decide (0 ≤ idxF xs q n))) ∧ Kept No w w'
  clear h
  generalize decide (0 ≤ idxF xs q n) = z at *
  go_enter Tryz.func90, Tryz.ntmps90
  go_wp2_with (go_at_call 99; refine hc.mono ?_; rintro e w' ⟨rfl, hk2⟩; have HW6 : Hid (Kept No w w') := HK.out.trans hk2 (fun _ h => h.elim); clear hk2)
  go_ret
  exact ⟨rfl, HW6.out⟩

theorem lrow1 (a : Option Addr) (n c : Nat) (w : World) (hn : n ≤ 9223372036854775807) :
    Calls Tryz.prog 83 #[.slice a n c] w fun e w' => e = .returned (.bool (decide (n ≤ 32))) ∧ Kept No w w' := by
  have HK : Hid (Kept No w w) := Kept.refl No w
  by_cases h : n ≤ 32
  · rw [show decide (n ≤ 32) = true by simp [h]]
    go_enter Tryz.func83, Tryz.ntmps83
    go_wp2
    go_ret
    exact ⟨by simp; omega, HK.out⟩
  · rw [show decide (n ≤ 32) = false by simp [h]]
    go_enter Tryz.func83, Tryz.ntmps83
    go_wp2
    go_ret
    exact ⟨by simp; omega, HK.out⟩
end Go.Proofs.YtibmgpinfdcaoaaGreatDoor
