/-
  One text: QMark, QOth, QSls, QLay, QSpl.
-/
import Derived.Test.YtkjnhhoniodbcaaGreatDoorGQc
import Derived.Test.YtkjnhhoniodbcaaGreatDoorOSrvs
import Derived.Laws.AppendOwnNone
import Derived.BigQuiet
import Derived.Test.YtkjnhhoniodbcaaGreatDoorQRun
namespace Go.Proofs.YtkjnhhoniodbcaaGreatDoor
open Go.RowKit Plain
set_option linter.unusedVariables false
set_option linter.unusedSimpArgs false
set_option maxRecDepth 100000

theorem wpList_cps {w : World} {ops : Array Oper} {rest : List Oper} {o : Oper} {a : Act} {Q : Exit → Act → World → Prop} (hgd : o.guard = none) (s x : Operand)
    (ho : o.op = .call { callee := .builtin .append, args := #[s, x], argTypes := #[22, 22] }) (B : Nat) (v : Value) (hs : a.eval s = v) (hv : w.ownsRow B 43 4 v 0 []) (hB : B ≤ w.heap.size) (xa : Option Addr) (n c : Nat) (hx : a.eval x = .slice xa n c)
    (F : Nat → Prop) (xs : List Srv) (hz : Sv w F xa n c xs) (hn : n * 32 ≤ 140737488351232)
    (h : ∀ v1 w', Hid (w'.ownsRow B 43 4 v1 n (fl xs)) → Hid (Kept (fun k => v.ownBlock = some k) w w') → wpList Tryz.prog ops Q rest (a.put o.dst v1) w') : wpList Tryz.prog ops Q (o :: rest) a w := by
  obtain ⟨i0, hi, hz0, hz1, hz2⟩ := info_parts Tryz.infoS
  cases xa with
  | none =>
    have hc0 := hz.nil rfl
    have hn0 : n = 0 := by have := hz.cap; omega
    have hx0 : xs = [] := List.eq_nil_of_length_eq_zero (by rw [hz.len]; exact hn0)
    subst hc0 hn0 hx0
    refine wpList_append_own_none hgd s x 22 ho B 43 i0 4 Tryz.underlying22 hi _ _ _ hs hv hx ?_
    exact h v w hv (Kept.refl _ _)
  | some ad =>
    refine wpList_append_own _ hgd s x 22 ho B 43 i0 (.agg #[.int .i64 0, .int .i64 0, .int .i64 0, .int .i64 0]) 4 32 Tryz.underlying22 hi hz0 hz1 hz2 rfl (by decide) _ 0 [] hs hv ad n c (fl xs) hx (by rw [fl_len, hz.len]) hz.news (fl_one _) (by unfold maxLen; omega) (by omega) hB ?_
    intro v1 w1 own1 grow1 _
    rw [Nat.zero_add, List.nil_append] at own1
    exact h v1 w1 own1 ((Kept.refl (fun k => v.ownBlock = some k) w).grown grow1 (fun k e => .inl e))

/-- servers with two marks behind them, in block g -/
structure Mk (w : World) (g n c : Nat) (xs : List Srv) : Prop where
  sv : Sv w (fun k => k = g) (some ⟨g, 0, none⟩) n c xs
  cap : n + 2 ≤ c
  m7 : w.cell? ⟨g, n * 4, none⟩ = some (.int .i64 (-7))
  m8 : w.cell? ⟨g, (n + 1) * 4, none⟩ = some (.int .i64 (-8))
theorem Mk.kept {w w' : World} {g n c : Nat} {xs : List Srv} {G : Nat → Prop} (h : Mk w g n c xs) (k : Kept G w w') (hd : ¬ G g) : Mk w' g n c xs :=
  ⟨h.sv.kept k (fun b e => by rw [e]; exact hd), h.cap, k.cell h.m7 hd, k.cell h.m8 hd⟩

set_option maxHeartbeats 4000000 in
theorem marked_any {F : Nat → Prop} {a : Option Addr} {n c : Nat} {xs : List Srv} (w : World) (h : Sv w F a n c xs) (hn : n * 32 ≤ 140737488351232) :
    Calls Tryz.prog 4 #[.slice a n c] w fun e w' => ∃ g cm, e = .returned (.slice (some ⟨g, 0, none⟩) n cm) ∧ w.heap.size ≤ g ∧ g < w'.heap.size ∧ Mk w' g n cm xs ∧ Kept No w w' := by
  obtain ⟨i0, hi, hz0, hz1, hz2⟩ := info_parts Tryz.infoS
  have HS : Hid (Sv w F a n c xs) := h
  have hcap := h.cap
  have hmax := h.max
  clear h
  go_enter Tryz.func4, Tryz.ntmps4
  go_upto_region 3 with (at_builtin; refine wpList_cps rfl _ _ rfl w.heap.size _ rfl (World.ownsRow_nil _ _ _ _) (Nat.le_refl _) a n c rfl F xs HS.out hn ?_; intro v1 w1 o1 g1)
  have H1 : Hid (w1.ownsRow w.heap.size 43 4 v1 n (fl xs) ∧ Kept No w w1) := ⟨o1.out, g1.out.mono (fun k e => by cases e)⟩
  clear o1 g1
  go_upto_region 4 with (at_builtin; refine wpList_append_own _ rfl _ _ 22 rfl w.heap.size 43 i0 (.agg #[.int .i64 0, .int .i64 0, .int .i64 0, .int .i64 0]) 4 32 Tryz.underlying22 hi hz0 hz1 hz2 rfl (by decide) v1 n (fl xs) rfl (H1.out.1.alloc _) ⟨w1.heap.size, 0, none⟩ 2 2 (fl [⟨-7, 0, 0, 0⟩, ⟨-8, 0, 0, 0⟩]) rfl rfl (by
      intro j u hj
      have hb := World.alloc_heap_new w1 (.cells #[.int .i64 (-7), .int .i64 0, .int .i64 0, .int .i64 0, .int .i64 (-8), .int .i64 0, .int .i64 0, .int .i64 0] 43)
      have hlt : j < 8 := (List.getElem?_eq_some_iff.1 hj).1
      rw [add_none, Nat.zero_add]
      simp only [World.cell?, hb]
      simp only [fl] at hj
      rcases j with _ | _ | _ | _ | _ | _ | _ | _ | j
      all_goals first | exact hj | (simp at hj ⊢; exact hj) | omega) (fl_one _) (by unfold maxLen; omega) (by omega) (by have := H1.out.2.size; rw [World.size_alloc]; omega) ?_; intro v2 w2 own2 grow2 _)
  have hfl : fl xs ++ fl [⟨-7, 0, 0, 0⟩, ⟨-8, 0, 0, 0⟩] = fl (xs ++ [⟨-7, 0, 0, 0⟩, ⟨-8, 0, 0, 0⟩]) := (fl_app _ _).symm
  rw [hfl] at own2
  have hxl := HS.out.len
  have hl2 : (xs ++ [(⟨-7, 0, 0, 0⟩ : Srv), ⟨-8, 0, 0, 0⟩]).length = n + 2 := by rw [List.length_append, hxl]; rfl
  rcases own_mf own2 hl2 with ⟨_, h0⟩ | ⟨g, cap, rfl, hB, hlt, hc1, hc2, hmf, hfz⟩
  · omega
  · have k2 : Kept No w w2 := (H1.out.2.alloc _).trans ((Kept.refl (fun k => v1.ownBlock = some k) _).grown grow2 (fun k e => .inl e)) (fun k e => .inr (H1.out.1.lt k e).1)
    have sv0 := hmf.sv n cap (by omega) (by omega) hc2 (fun i hi => by
      have e : (xs ++ [(⟨-7, 0, 0, 0⟩ : Srv), ⟨-8, 0, 0, 0⟩]).getD i ⟨0, 0, 0, 0⟩ = xs.getD i ⟨0, 0, 0, 0⟩ := by simp [List.getD, List.getElem?_append_left (show i < xs.length by omega)]
      rw [e]
      exact HS.out.ok i hi)
    have e : (List.range n).map (fun i => (xs ++ [(⟨-7, 0, 0, 0⟩ : Srv), ⟨-8, 0, 0, 0⟩]).getD i ⟨0, 0, 0, 0⟩) = xs := by
      conv => rhs; rw [HS.out.eq]
      apply List.map_congr_left
      intro i hi
      rw [List.mem_range] at hi
      simp [List.getD, List.getElem?_append_left (show i < xs.length by omega)]
    rw [e] at sv0
    have q7 : (xs ++ [(⟨-7, 0, 0, 0⟩ : Srv), ⟨-8, 0, 0, 0⟩]).getD n ⟨0, 0, 0, 0⟩ = ⟨-7, 0, 0, 0⟩ := by rw [← hxl]; simp [List.getD]
    have q8 : (xs ++ [(⟨-7, 0, 0, 0⟩ : Srv), ⟨-8, 0, 0, 0⟩]).getD (n + 1) ⟨0, 0, 0, 0⟩ = ⟨-8, 0, 0, 0⟩ := by rw [← hxl]; simp [List.getD]
    have m7 : w2.cell? ⟨g, n * 4, none⟩ = some (.int .i64 (-7)) := by rw [(hmf n (by omega)).1]; show some (Value.int .i64 ((xs ++ [(⟨-7, 0, 0, 0⟩ : Srv), ⟨-8, 0, 0, 0⟩]).getD n ⟨0, 0, 0, 0⟩).p) = _; rw [q7]
    have m8 : w2.cell? ⟨g, (n + 1) * 4, none⟩ = some (.int .i64 (-8)) := by rw [(hmf (n + 1) (by omega)).1]; show some (Value.int .i64 ((xs ++ [(⟨-7, 0, 0, 0⟩ : Srv), ⟨-8, 0, 0, 0⟩]).getD (n + 1) ⟨0, 0, 0, 0⟩).p) = _; rw [q8]
    have HF : Hid (w.heap.size ≤ g ∧ g < w2.heap.size ∧ Mk w2 g n cap xs ∧ Kept No w w2) := ⟨hB, hlt, ⟨sv0, hc1, m7, m8⟩, k2⟩
    clear own2 grow2 hmf hfz sv0 e m7 m8 k2 H1 hfl hl2 hxl hB hlt
    go_wp2
    go_ret
    exact ⟨g, cap, rfl, HF.out⟩

theorem eqSv (w : World) (p b o q : Int) : (Op.equalIn 10000 43 (.agg #[.int .i64 p, .int .i64 b, .int .i64 o, .int .i64 q]) (.agg #[.int .i64 p, .int .i64 b, .int .i64 o, .int .i64 q])).run Tryz.prog w = .ok true w := by
  rw [show (10000 : Nat) = 9999 + 1 from rfl, run_equalIn_struct w 9999 _ _ _ (by kernel_rfl) (by kernel_rfl)]
  simp [go_sem, Tryz.underlying43]

set_option maxHeartbeats 4000000 in
theorem left_any {F : Nat → Prop} {a : Option Addr} {g n c cm : Nat} {xs : List Srv} (w : World) (h : Sv w F a n c xs) (hm : Mk w g n cm xs) :
    Calls Tryz.prog 12 #[.slice (some ⟨g, 0, none⟩) n cm, .slice a n c] w fun e w' => e = .returned (.bool true) ∧ Kept No w w' := by
  have HS : Hid (Sv w F a n c xs ∧ Mk w g n cm xs) := ⟨h, hm⟩
  have hcap := h.cap
  have hmax := h.max
  have hcm := hm.cap
  have hmm := hm.sv.max
  have h7 := hm.m7
  have h8 := hm.m8
  have hnz : (n : Int) + 2 ≤ (cm : Int) := by omega
  have HX : Hid (xs.length = n) := h.len
  clear h hm
  go_enter Tryz.func12, Tryz.ntmps12
  go_wp2
  go_loopw [7] (fun x wr => ∃ k : Nat, k ≤ n ∧ x = .int .i64 k ∧ Kept No w wr) (fun x _ => n - (intOf x).toNat)
  case atStart => exact ⟨0, Nat.zero_le _, rfl, Kept.refl No w⟩
  case round =>
    obtain ⟨k, hk, rfl, hkr⟩ := hrel
    have HKR : Hid (Kept No w wr) := hkr
    have h7' := hkr.cell h7 (fun h => h)
    have h8' := hkr.cell h8 (fun h => h)
    clear hkr h7 h8
    by_cases hlt : k < n
    · have hltz : (k : Int) < (n : Int) := by omega
      have hx : xs[k]? = some (xs.getD k ⟨0, 0, 0, 0⟩) := by rw [List.getD, List.getElem?_eq_getElem (by rw [HX.out]; exact hlt)]; rfl
      obtain ⟨_, b, o, rfl, _, e0, e1, e2, e3⟩ := (HS.out.1.keep HKR.out).at' k _ hx
      obtain ⟨_, b2, o2, eq2, _, d0, d1, d2, d3⟩ := (HS.out.2.sv.keep HKR.out).at' k _ hx
      injection eq2 with eq2
      injection eq2 with q1 q2 _
      subst q1 q2
      rw [Nat.zero_add] at d0 d1 d2 d3
      generalize xs.getD k ⟨0, 0, 0, 0⟩ = y at *
      obtain ⟨yp, yb, yo, yq⟩ := y
      simp only at e0 e1 e2 e3 d0 d1 d2 d3
      have hEQ := fun w => eqSv w yp yb yo yq
      clear hx h7' h8'
      go_upto_region 6 with fail
      go_quiet (fail)
      clear e0 e1 e2 e3 d0 d1 d2 d3
      go_wp2
      go_roundw
      case rel => exact ⟨k + 1, by omega, by go_num, HKR.out.drewN _⟩
      case measure => simp [intOf]; omega
    · have hltz : ¬ (k : Int) < (n : Int) := by omega
      obtain rfl : k = n := by omega
      clear hk
      go_wp2
      go_ret
      exact ⟨rfl, HKR.out⟩

set_option maxHeartbeats 2000000 in
theorem few_any {F : Nat → Prop} {a : Option Addr} {c : Nat} {xs : List Srv} (w : World) (h : Sv w F a xs.length c xs) :
    Calls Tryz.prog 14 #[.slice a xs.length c] w fun e w' => ∃ (ys : List Srv) (ya : Option Addr) (yc : Nat), e = .returned (.slice ya ys.length yc) ∧ ys.length ≤ xs.length ∧ Sv w' F ya ys.length yc ys ∧ Kept No w w' := by
  have hc := rHyper_any F a xs.length c xs w h
  have HS : Hid (Sv w F a xs.length c xs) := h
  clear h
  generalize hyV xs xs.length = Y at *
  generalize hyE xs xs.length = E at *
  by_cases hY : 4096 < Y
  · go_enter Tryz.func14, Tryz.ntmps14
    go_wp2_with (go_at_call 22; refine hc.mono ?_; rintro e w1 ⟨rfl, hk1⟩; have HK1 : Hid (Kept No w w1) := hk1; clear hk1 hc)
    refine bodyPost_ret (results_tmp rfl _ _ _) rfl ?_
    exact ⟨[], none, 0, rfl, Nat.zero_le _, ⟨rfl, Nat.le_refl _, by omega, fun _ => rfl, fun i x hx => by cases hx⟩, HK1.out⟩
  · go_enter Tryz.func14, Tryz.ntmps14
    go_wp2_with (go_at_call 22; refine hc.mono ?_; rintro e w1 ⟨rfl, hk1⟩; have HK1 : Hid (Kept No w w1) := hk1; clear hk1 hc)
    refine bodyPost_ret (results_tmp rfl _ _ _) rfl ?_
    exact ⟨xs, a, c, rfl, Nat.le_refl _, HS.out.keep HK1.out, HK1.out⟩
end Go.Proofs.YtkjnhhoniodbcaaGreatDoor

namespace Go.Proofs.YtkjnhhoniodbcaaGreatDoor
open Go.RowKit Plain
set_option linter.unusedVariables false
set_option linter.unusedSimpArgs false
set_option maxRecDepth 100000

/-- the j-th of the others -/
def othS (xs : List Srv) (j : Nat) : Srv := ⟨(xs.getD (xs.length - 1 - j) ⟨0, 0, 0, 0⟩).p, 1, (xs.getD (xs.length - 1 - j) ⟨0, 0, 0, 0⟩).o, (xs.getD (xs.length - 1 - j) ⟨0, 0, 0, 0⟩).q⟩
def othL (xs : List Srv) (k : Nat) : List Srv := (List.range k).map (othS xs)
theorem othL_len (xs : List Srv) (k : Nat) : (othL xs k).length = k := by simp [othL]
theorem othL_succ (xs : List Srv) (k : Nat) : fl (othL xs (k + 1)) = fl (othL xs k) ++ fl [othS xs k] := by rw [← fl_app]; simp [othL, List.range_succ]
theorem othL_get (xs : List Srv) {k i : Nat} (h : i < k) : (othL xs k).getD i ⟨0, 0, 0, 0⟩ = othS xs i := by simp [othL, List.getD, h]

set_option maxHeartbeats 4000000 in
theorem others_any {F : Nat → Prop} {a : Option Addr} {c : Nat} {xs : List Srv} (w : World) (h : Sv w F a xs.length c xs) (hn : xs.length * 32 ≤ 140737488351232) :
    Calls Tryz.prog 31 #[.slice a xs.length c] w fun e w' => ∃ v, e = .returned v ∧ w'.ownsRow w.heap.size 43 4 v xs.length (fl (othL xs xs.length)) ∧ Kept No w w' := by
  obtain ⟨i0, hi, hz0, hz1, hz2⟩ := info_parts Tryz.infoS
  have HS : Hid (Sv w F a xs.length c xs) := h
  have hcap := h.cap
  have hmax := h.max
  clear h
  go_enter Tryz.func31, Tryz.ntmps31
  go_wp2
  go_loopw [3, 4, 5] (fun v y z5 wr => ∃ k : Nat, k ≤ xs.length ∧ y = .int .i64 ((xs.length : Int) - 1 - k) ∧ wr.ownsRow w.heap.size 43 4 v k (fl (othL xs k)) ∧ Kept No w wr) (fun _ y _ _ => (intOf y + 1).toNat)
  case atStart => exact ⟨0, Nat.zero_le _, by congr 1; omega, ⟨rfl, .inl ⟨rfl, rfl⟩⟩, Kept.refl _ _⟩
  case round =>
    obtain ⟨k, hk, rfl, ho, hkr⟩ := hrel
    have HW : Hid (wr.ownsRow w.heap.size 43 4 u3 k (fl (othL xs k)) ∧ Kept No w wr) := ⟨ho, hkr⟩
    have HOW : Hid (∀ j, u3.ownBlock = some j → w.heap.size ≤ j) := fun j e => (ho.lt j e).1
    clear ho hkr
    by_cases hlt : k < xs.length
    · obtain ⟨p, hp⟩ : ∃ p : Nat, xs.length - 1 - k = p := ⟨_, rfl⟩
      have hpz : (xs.length : Int) - 1 - k = (p : Int) := by omega
      rw [hpz]
      have hpl : p < xs.length := by omega
      have hpl2 : (p : Int) < (xs.length : Int) := by omega
      have hx : xs[p]? = some (xs.getD p ⟨0, 0, 0, 0⟩) := by rw [List.getD, List.getElem?_eq_getElem hpl]; rfl
      obtain ⟨hok, b, o, rfl, hb, e0, e1, e2, e3⟩ := (HS.out.keep HW.out.2).at' p _ hx
      have HO : Hid (othS xs k = ⟨(xs.getD p ⟨0, 0, 0, 0⟩).p, 1, (xs.getD p ⟨0, 0, 0, 0⟩).o, (xs.getD p ⟨0, 0, 0, 0⟩).q⟩) := by show _ = _; unfold othS; rw [hp]
      have HP : Hid ((xs.length : Int) - 1 - k = (p : Int)) := hpz
      have HLS : Hid (fl (othL xs (k + 1)) = fl (othL xs k) ++ fl [othS xs k]) := othL_succ xs k
      clear hx hok hp hpz
      generalize xs.getD p ⟨0, 0, 0, 0⟩ = y at *
      obtain ⟨yp, yb, yo, yq⟩ := y
      simp only at e0 e1 e2 e3 HO
      have hbx := World.alloc_heap_new wr (.cells #[.int .i64 yp, .int .i64 yb, .int .i64 yo, .int .i64 yq] 43)
      obtain ⟨d0, d1, d2, d3⟩ := cellsS hbx
      have df : ∀ j, (wr.alloc (.cells #[.int .i64 yp, .int .i64 yb, .int .i64 yo, .int .i64 yq] 43)).frozen? ⟨wr.heap.size, j, none⟩ = false := fun j => by simp only [World.frozen?]; rw [hbx]; rfl
      go_upto_region 7 with fail
      clear d0 d1 d2 d3 df hbx e0 e1 e2 e3
      have kb : Kept No wr (wr.alloc (.cells #[.int .i64 yp, .int .i64 1, .int .i64 yo, .int .i64 yq] 43)) := (Kept.refl No wr).alloc _
      obtain ⟨d0, d1, d2, d3⟩ := cellsS (World.alloc_heap_new wr (.cells #[.int .i64 yp, .int .i64 1, .int .i64 yo, .int .i64 yq] 43))
      have HA : Hid ((wr.alloc (.cells #[.int .i64 yp, .int .i64 1, .int .i64 yo, .int .i64 yq] 43)).ownsRow w.heap.size 43 4 u3 k (fl (othL xs k)) ∧ Kept No w (wr.alloc (.cells #[.int .i64 yp, .int .i64 1, .int .i64 yo, .int .i64 yq] 43))) := ⟨kb.owns HW.out.1 (fun _ _ h => h), HW.out.2.trans kb (fun _ h => h.elim)⟩
      clear kb HW
      generalize (wr.alloc (.cells #[.int .i64 yp, .int .i64 1, .int .i64 yo, .int .i64 yq] 43)) = wa at *
      generalize wr.heap.size = Bx at *
      go_wp2_with (at_builtin; refine wpList_append_own _ rfl _ _ 22 rfl w.heap.size 43 i0 (.agg #[.int .i64 0, .int .i64 0, .int .i64 0, .int .i64 0]) 4 32 Tryz.underlying22 hi hz0 hz1 hz2 rfl (by decide) u3 k (fl (othL xs k)) rfl (HA.out.1.alloc _) ⟨wa.heap.size, 0, none⟩ 1 1 (fl [⟨yp, 1, yo, yq⟩]) rfl rfl (by
          intro j u hj
          have hb := World.alloc_heap_new wa (.cells #[.int .i64 yp, .int .i64 1, .int .i64 yo, .int .i64 yq] 43)
          have hlt : j < 4 := (List.getElem?_eq_some_iff.1 hj).1
          rw [add_none, Nat.zero_add]
          simp only [World.cell?, hb]
          simp only [fl] at hj
          rcases j with _ | _ | _ | _ | j
          all_goals first | exact hj | (simp at hj ⊢; exact hj) | omega) (fl_one _) (by unfold maxLen; omega) (by omega) (by have := HA.out.2.size; rw [World.size_alloc]; omega) ?_; intro v9 w10 own10 grow10 _)
      have HN : Hid (w10.ownsRow w.heap.size 43 4 v9 (k + 1) (fl (othL xs (k + 1))) ∧ Kept No w w10) := by
        have kg : Kept (fun j => u3.ownBlock = some j) wa w10 := ((Kept.refl _ wa).alloc _).grown grow10 (fun j e => .inl e)
        refine ⟨?_, HA.out.2.trans kg (fun j e => .inr (HOW.out j e))⟩
        rw [HLS.out, HO.out]
        exact own10
      clear own10 grow10 d0 d1 d2 d3
      go_wp2
      go_roundw
      case rel => exact ⟨k + 1, by omega, by have := HP.out; congr 1; omega, HN.out⟩
      case measure => simp [intOf] <;> omega
    · obtain rfl : k = xs.length := by omega
      have hz : ¬ (0 : Int) ≤ ((xs.length : Nat) : Int) - 1 - ((xs.length : Nat) : Int) := by omega
      clear hk
      go_wp2
      go_ret
      exact ⟨_, rfl, HW.out⟩

theorem Mf.put {w : World} {g N : Nat} {f : Nat → Srv} (h : Mf w g N f) (k : Nat) (x : Srv) : Mf ((((w.setCell ⟨g, k * 4, none⟩ (.int .i64 x.p)).setCell ⟨g, k * 4 + 1, none⟩ (.int .i64 x.b)).setCell ⟨g, k * 4 + 2, none⟩ (.int .i64 x.o)).setCell ⟨g, k * 4 + 3, none⟩ (.int .i64 x.q)) g N (fun i => if i = k then x else f i) := fun i hi => by
  obtain ⟨h0, h1, h2, h3⟩ := h i hi
  refine ⟨?_, ?_, ?_, ?_⟩
  · rw [cell_set (cell_set (cell_set (cell_set h0)))]
    by_cases e : i = k
    · subst e; simp
    · rw [if_neg (by omega), if_neg (by omega), if_neg (by omega), if_neg (by omega)]
      simp [e]
  · rw [cell_set (cell_set (cell_set (cell_set h1)))]
    by_cases e : i = k
    · subst e; simp
    · rw [if_neg (by omega), if_neg (by omega), if_neg (by omega), if_neg (by omega)]
      simp [e]
  · rw [cell_set (cell_set (cell_set (cell_set h2)))]
    by_cases e : i = k
    · subst e; simp
    · rw [if_neg (by omega), if_neg (by omega), if_neg (by omega), if_neg (by omega)]
      simp [e]
  · rw [cell_set (cell_set (cell_set (cell_set h3)))]
    by_cases e : i = k
    · subst e; simp
    · rw [if_neg (by omega), if_neg (by omega), if_neg (by omega), if_neg (by omega)]
      simp [e]
theorem Mf.ext {w : World} {g N : Nat} {f f' : Nat → Srv} (h : Mf w g N f) (e : ∀ i, i < N → f i = f' i) : Mf w g N f' := fun i hi => by rw [← e i hi]; exact h i hi
theorem put4_kept (w : World) (g k : Nat) (x : Srv) : Kept (fun j => j = g) w ((((w.setCell ⟨g, k * 4, none⟩ (.int .i64 x.p)).setCell ⟨g, k * 4 + 1, none⟩ (.int .i64 x.b)).setCell ⟨g, k * 4 + 2, none⟩ (.int .i64 x.o)).setCell ⟨g, k * 4 + 3, none⟩ (.int .i64 x.q)) :=
  Kept.setCell (F := fun j => j = g) (p := ⟨g, k * 4 + 3, none⟩) (Kept.setCell (F := fun j => j = g) (p := ⟨g, k * 4 + 2, none⟩) (Kept.setCell (F := fun j => j = g) (p := ⟨g, k * 4 + 1, none⟩) (Kept.setCell (F := fun j => j = g) (p := ⟨g, k * 4, none⟩) (Kept.refl _ w) (.inl rfl) _) (.inl rfl) _) (.inl rfl) _) (.inl rfl) _

set_option maxHeartbeats 4000000 in
theorem lay_any {F : Nat → Prop} {a : Option Addr} {c g cg : Nat} {xs : List Srv} {f : Nat → Srv} (w : World) (h : Sv w F a xs.length c xs) (hF : ¬ F g) (hm : Mf w g xs.length f) (hz : Fz w g) (hcg : xs.length ≤ cg) (hcm : cg ≤ 9223372036854775807) :
    Calls Tryz.prog 32 #[.slice (some ⟨g, 0, none⟩) xs.length cg, .slice a xs.length c] w fun e w' => (∃ v, e = .returned v) ∧ Mf w' g xs.length (fun i => xs.getD i ⟨0, 0, 0, 0⟩) ∧ Kept (fun j => j = g) w w' := by
  have HS : Hid (Sv w F a xs.length c xs ∧ ¬ F g) := ⟨h, hF⟩
  have H0 : Hid (Mf w g xs.length f ∧ Fz w g) := ⟨hm, hz⟩
  have hcap := h.cap
  have hmax := h.max
  clear h hF hm hz
  go_enter Tryz.func32, Tryz.ntmps32
  go_wp2
  go_loopw [4] (fun x wr => ∃ k : Nat, k ≤ xs.length ∧ x = .int .i64 k ∧ Mf wr g xs.length (fun i => if i < k then xs.getD i ⟨0, 0, 0, 0⟩ else f i) ∧ Fz wr g ∧ Kept (fun j => j = g) w wr) (fun x _ => xs.length - (intOf x).toNat)
  case atStart => exact ⟨0, Nat.zero_le _, rfl, H0.out.1.ext (fun i hi => by simp), H0.out.2, Kept.refl _ _⟩
  case round =>
    obtain ⟨k, hk, rfl, hm, hz, hkr⟩ := hrel
    by_cases hlt : k < xs.length
    · have hltz : (k : Int) < (xs.length : Int) := by omega
      have hx : xs[k]? = some (xs.getD k ⟨0, 0, 0, 0⟩) := by rw [List.getD, List.getElem?_eq_getElem hlt]; rfl
      obtain ⟨hok, b, o, rfl, hb, e0, e1, e2, e3⟩ := (HS.out.1.kept hkr (fun j hj e => HS.out.2 (by rw [← e]; exact hj))).at' k _ hx
      obtain ⟨c0, c1, c2, c3⟩ := hm k hlt
      have f0 := hz (k * 4)
      have f1 := hz (k * 4 + 1)
      have f2 := hz (k * 4 + 2)
      have f3 := hz (k * 4 + 3)
      have HN : Hid (Mf ((((wr.setCell ⟨g, k * 4, none⟩ (.int .i64 (xs.getD k ⟨0, 0, 0, 0⟩).p)).setCell ⟨g, k * 4 + 1, none⟩ (.int .i64 (xs.getD k ⟨0, 0, 0, 0⟩).b)).setCell ⟨g, k * 4 + 2, none⟩ (.int .i64 (xs.getD k ⟨0, 0, 0, 0⟩).o)).setCell ⟨g, k * 4 + 3, none⟩ (.int .i64 (xs.getD k ⟨0, 0, 0, 0⟩).q)) g xs.length (fun i => if i < k + 1 then xs.getD i ⟨0, 0, 0, 0⟩ else f i) ∧ Fz ((((wr.setCell ⟨g, k * 4, none⟩ (.int .i64 (xs.getD k ⟨0, 0, 0, 0⟩).p)).setCell ⟨g, k * 4 + 1, none⟩ (.int .i64 (xs.getD k ⟨0, 0, 0, 0⟩).b)).setCell ⟨g, k * 4 + 2, none⟩ (.int .i64 (xs.getD k ⟨0, 0, 0, 0⟩).o)).setCell ⟨g, k * 4 + 3, none⟩ (.int .i64 (xs.getD k ⟨0, 0, 0, 0⟩).q)) g ∧ Kept (fun j => j = g) w ((((wr.setCell ⟨g, k * 4, none⟩ (.int .i64 (xs.getD k ⟨0, 0, 0, 0⟩).p)).setCell ⟨g, k * 4 + 1, none⟩ (.int .i64 (xs.getD k ⟨0, 0, 0, 0⟩).b)).setCell ⟨g, k * 4 + 2, none⟩ (.int .i64 (xs.getD k ⟨0, 0, 0, 0⟩).o)).setCell ⟨g, k * 4 + 3, none⟩ (.int .i64 (xs.getD k ⟨0, 0, 0, 0⟩).q))) := by
        refine ⟨(hm.put k (xs.getD k ⟨0, 0, 0, 0⟩)).ext (fun i hi => ?_), fun i => by rw [World.frozen?_setCell, World.frozen?_setCell, World.frozen?_setCell, World.frozen?_setCell]; exact hz i, hkr.trans (put4_kept wr g k _) (fun _ h => .inl h)⟩
        by_cases e : i = k
        · rw [if_pos e, if_pos (by omega), e]
        · rw [if_neg e]
          by_cases e2 : i < k
          · rw [if_pos e2, if_pos (by omega)]
          · rw [if_neg e2, if_neg (by omega)]
      have ek : (fun i => if i < k then xs.getD i ⟨0, 0, 0, 0⟩ else f i) k = f k := if_neg (Nat.lt_irrefl k)
      rw [ek] at c0 c1 c2 c3
      clear ek
      clear hm hz hkr hx hok
      generalize xs.getD k ⟨0, 0, 0, 0⟩ = y at *
      obtain ⟨yp, yb, yo, yq⟩ := y
      simp only at e0 e1 e2 e3 HN
      generalize (f k).p = fp at *
      generalize (f k).b = fb at *
      generalize (f k).o = fo at *
      generalize (f k).q = fq at *
      go_wp2
      go_roundw
      case rel => exact ⟨k + 1, by omega, by go_num, HN.out⟩
      case measure => simp [intOf]; omega
    · have hltz : ¬ (k : Int) < (xs.length : Int) := by omega
      have HF : Hid (Mf wr g xs.length (fun i => xs.getD i ⟨0, 0, 0, 0⟩) ∧ Kept (fun j => j = g) w wr) := ⟨hm.ext (fun i hi => if_pos (by omega)), hkr⟩
      clear hm hz hkr hk
      go_wp2
      go_end0
      exact ⟨⟨_, rfl⟩, HF.out⟩
end Go.Proofs.YtkjnhhoniodbcaaGreatDoor

namespace Go.Proofs.YtkjnhhoniodbcaaGreatDoor
open Go.RowKit Plain
set_option linter.unusedVariables false
set_option linter.unusedSimpArgs false
set_option maxRecDepth 100000

/-- a list of slots that is read -/
structure Nq (w : World) (G : Nat → Prop) (a : Option Addr) (n c : Nat) (f : Nat → Int × Int) : Prop where
  cap : n ≤ c
  max : c ≤ 9223372036854775807
  at' : ∀ i, i < n → ∃ b, a = some ⟨b, 0, none⟩ ∧ G b ∧ w.cell? ⟨b, i * 2, none⟩ = some (.int .i64 (f i).1) ∧ w.cell? ⟨b, i * 2 + 1, none⟩ = some (.int .i64 (f i).2)
theorem Nq.kept {w w' : World} {G H : Nat → Prop} {a : Option Addr} {m c : Nat} {f : Nat → Int × Int} (h : Nq w G a m c f) (k : Kept H w w') (hd : ∀ b, G b → ¬ H b) : Nq w' G a m c f :=
  ⟨h.cap, h.max, fun i hi => by obtain ⟨b, e, hg, h1, h2⟩ := h.at' i hi; exact ⟨b, e, hg, k.cell h1 (hd b hg), k.cell h2 (hd b hg)⟩⟩
theorem Nq.keep {w w' : World} {G : Nat → Prop} {a : Option Addr} {m c : Nat} {f : Nat → Int × Int} (h : Nq w G a m c f) (k : Kept No w w') : Nq w' G a m c f := h.kept k (fun _ _ h => h)
def slF (L : List (Nat × Nat)) (i : Nat) : Int × Int := (((L.getD i (0, 0)).1 : Nat), ((L.getD i (0, 0)).2 : Nat))
theorem Nq.of {w : World} {base : Nat} {v : Value} {L : List (Nat × Nat)} (h : Ow w base v L) : ∃ a c, v = .slice a L.length c ∧ Nq w (fun k => base ≤ k ∧ k < w.heap.size) a L.length c (slF L) ∧ ((a = none ∧ L.length = 0) ∨ ∃ g, a = some ⟨g, 0, none⟩ ∧ base ≤ g ∧ g < w.heap.size ∧ ∀ i, w.frozen? ⟨g, i, none⟩ = false) := by
  have h0 := h
  obtain ⟨_, ⟨rfl, hn⟩ | ⟨g, cap, cur, rfl, hb, hg, hn, hm, _, _⟩⟩ := h
  · refine ⟨none, 0, by rw [hn], ⟨by rw [hn]; exact Nat.le_refl _, by omega, fun i hi => by omega⟩, .inl ⟨rfl, hn⟩⟩
  · have hlt : g < w.heap.size := by
      apply Decidable.byContradiction
      intro q
      rw [Array.getElem?_eq_none (by omega)] at hg
      cases hg
    refine ⟨_, cap, rfl, ⟨hn, by unfold maxLen at hm; omega, fun i hi => ?_⟩, .inr ⟨g, rfl, hb, hlt, fun i => by simp [World.frozen?, hg]⟩⟩
    have hx : L[i]? = some (L.getD i (0, 0)) := by rw [List.getD, List.getElem?_eq_getElem hi]; rfl
    obtain ⟨C0, C1⟩ := slL_at L i _ hx
    have c0 := h0.cells (g := g) rfl (i * 2) _ C0
    have c1 := h0.cells (g := g) rfl (i * 2 + 1) _ C1
    rw [add_none, Nat.zero_add] at c0 c1
    exact ⟨g, rfl, ⟨hb, hlt⟩, c0, c1⟩

theorem eqSl (w : World) (x y : Int) : (Op.equalIn 10000 39 (.agg #[.int .i64 x, .int .i64 y]) (.agg #[.int .i64 x, .int .i64 y])).run Tryz.prog w = .ok true w := by
  rw [show (10000 : Nat) = 9999 + 1 from rfl, run_equalIn_struct w 9999 _ _ _ (by kernel_rfl) (by kernel_rfl)]
  simp [go_sem, Tryz.underlying39]

set_option maxHeartbeats 2000000 in
theorem sameS_yes {F G : Nat → Prop} {a a2 : Option Addr} {n c c2 : Nat} {f : Nat → Int × Int} (w : World) (h : Nq w F a n c f) (h2 : Nq w G a2 n c2 f) :
    Calls Tryz.prog 7 #[.slice a n c, .slice a2 n c2] w fun e w' => e = .returned (.bool true) ∧ Kept No w w' := by
  have HS : Hid (Nq w F a n c f ∧ Nq w G a2 n c2 f) := ⟨h, h2⟩
  have hcap := h.cap
  have hmax := h.max
  have hcap2 := h2.cap
  have hmax2 := h2.max
  clear h h2
  go_enter Tryz.func7, Tryz.ntmps7
  go_wp2
  go_loopw [5] (fun x wr => ∃ k : Nat, k ≤ n ∧ x = .int .i64 k ∧ Kept No w wr) (fun x _ => n - (intOf x).toNat)
  case atStart => exact ⟨0, Nat.zero_le _, rfl, Kept.refl No w⟩
  case round =>
    obtain ⟨k, hk, rfl, hkr⟩ := hrel
    have HKR : Hid (Kept No w wr) := hkr
    clear hkr
    by_cases hlt : k < n
    · have hltz : (k : Int) < (n : Int) := by omega
      obtain ⟨b, rfl, _, e0, e1⟩ := HS.out.1.at' k hlt
      obtain ⟨b2, rfl, _, d0, d1⟩ := HS.out.2.at' k hlt
      have e0' := HKR.out.cell e0 (fun h => h)
      have e1' := HKR.out.cell e1 (fun h => h)
      have d0' := HKR.out.cell d0 (fun h => h)
      have d1' := HKR.out.cell d1 (fun h => h)
      clear e0 e1 d0 d1
      generalize (f k).1 = y0 at *
      generalize (f k).2 = y1 at *
      have hEQ := fun w => eqSl w y0 y1
      go_upto_region 6 with fail
      go_quiet (fail)
      clear e0' d0' e1' d1'
      go_wp2
      go_roundw
      case rel => exact ⟨k + 1, by omega, by go_num, HKR.out.drewN _⟩
      case measure => simp [intOf]; omega
    · have hltz : ¬ (k : Int) < (n : Int) := by omega
      clear hk
      go_wp2
      go_ret
      exact ⟨rfl, HKR.out⟩
end Go.Proofs.YtkjnhhoniodbcaaGreatDoor

namespace Go.Proofs.YtkjnhhoniodbcaaGreatDoor
open Go.RowKit Plain
set_option linter.unusedVariables false
set_option maxRecDepth 100000

theorem oth_ok {xs : List Srv} (h : ∀ i, i < xs.length → (xs.getD i ⟨0, 0, 0, 0⟩).ok) : ∀ i, i < xs.length → ((othL xs xs.length).getD i ⟨0, 0, 0, 0⟩).ok := fun i hi => by
  rw [othL_get xs hi]
  unfold othS
  have := h (xs.length - 1 - i) (by omega)
  exact ⟨this.1, (by show I6 1; unfold I6; omega), this.2.2.1, this.2.2.2⟩

/-- the others, as servers that are read, and that may be written -/
theorem others_sv {F : Nat → Prop} {a : Option Addr} {c : Nat} {xs : List Srv} (w : World) (h : Sv w F a xs.length c xs) (hn : xs.length * 32 ≤ 140737488351232) :
    Calls Tryz.prog 31 #[.slice a xs.length c] w fun e w' => ∃ ga gc, e = .returned (.slice ga (othL xs xs.length).length gc) ∧ Sv w' (fun k => Bk9 ga k) ga (othL xs xs.length).length gc (othL xs xs.length) ∧ (∀ k, Bk9 ga k → w.heap.size ≤ k ∧ k < w'.heap.size) ∧ ((ga = none ∧ xs.length = 0) ∨ ∃ g f, ga = some ⟨g, 0, none⟩ ∧ Mf w' g xs.length f ∧ Fz w' g) ∧ Kept No w w' := by
  have hok := oth_ok (fun i hi => h.ok i hi)
  refine (others_any w h hn).mono ?_
  rintro e w' ⟨v, rfl, ho, hk⟩
  obtain ⟨ga, gc, rfl, hsv⟩ := own_sv ho (othL_len _ _) hok
  refine ⟨ga, gc, by rw [othL_len], ?_, ?_, ?_, hk⟩
  · rw [othL_len]
    refine ⟨hsv.len, hsv.cap, hsv.max, hsv.nil, fun i x hx => ?_⟩
    obtain ⟨q1, b, o, e, hb, r⟩ := hsv.at' i x hx
    rcases own_mf ho (othL_len _ _) with ⟨h1, h2⟩ | ⟨g, cap, h1, _⟩
    · have := (List.getElem?_eq_some_iff.1 hx).1
      rw [othL_len] at this
      omega
    · injection h1 with h1 _ _
      subst h1
      injection e with e
      injection e with e1 e2 _
      subst e1 e2
      exact ⟨q1, g, 0, rfl, rfl, r⟩
  · intro k hk9
    rcases own_mf ho (othL_len _ _) with ⟨h1, h2⟩ | ⟨g, cap, h1, h2, h3, _⟩
    · injection h1 with h1 _ _; subst h1; cases hk9
    · injection h1 with h1 _ _
      subst h1
      injection hk9 with e
      injection e with e _ _
      subst e
      exact ⟨h2, h3⟩
  · rcases own_mf ho (othL_len _ _) with ⟨h1, h2⟩ | ⟨g, cap, h1, h2, h3, h4, h5, h6, h7⟩
    · injection h1 with h1 _ _; exact .inl ⟨h1, h2⟩
    · injection h1 with h1 _ _
      exact .inr ⟨g, _, h1, h6, h7⟩

/-- lay, whether there are any or not -/
theorem lay_all {F : Nat → Prop} {a ga : Option Addr} {c gc : Nat} {xs ys : List Srv} (w : World) (h : Sv w F a xs.length c xs) (hF : ∀ k, Bk9 ga k → ¬ F k) (hg : Sv w (fun k => Bk9 ga k) ga ys.length gc ys) (hl : ys.length = xs.length) (hm : (ga = none ∧ xs.length = 0) ∨ ∃ g f, ga = some ⟨g, 0, none⟩ ∧ Mf w g xs.length f ∧ Fz w g) :
    Calls Tryz.prog 32 #[.slice ga ys.length gc, .slice a xs.length c] w fun e w' => (∃ v, e = .returned v) ∧ Sv w' (fun k => Bk9 ga k) ga xs.length gc xs ∧ Kept (fun j => Bk9 ga j) w w' := by
  rw [hl] at hg ⊢
  rcases hm with ⟨rfl, h0⟩ | ⟨g, f, rfl, hmf, hfz⟩
  · have hgc := hg.nil rfl
    subst hgc
    have hxs : xs = [] := List.eq_nil_of_length_eq_zero h0
    subst hxs
    have hcap := h.cap
    have hmax := h.max
    clear h hg hF hl
    show Calls Tryz.prog 32 #[.slice none 0 0, .slice a 0 c] w _
    go_enter Tryz.func32, Tryz.ntmps32
    go_wp2
    go_loopw [4] (fun x wr => x = .int .i64 0 ∧ wr = w) (fun x _ => 0)
    case atStart => exact ⟨rfl, rfl⟩
    case round =>
      obtain ⟨rfl, hw⟩ := hrel
      subst hw
      go_wp2
      go_end0
      exact ⟨⟨_, rfl⟩, ⟨rfl, Nat.le_refl _, by omega, fun _ => rfl, fun i x hx => by cases hx⟩, Kept.refl _ _⟩
  · have hcap := hg.cap
    have hmax := hg.max
    have hok : ∀ i, i < xs.length → (xs.getD i ⟨0, 0, 0, 0⟩).ok := fun i hi => h.ok i hi
    have heq := h.eq
    refine (lay_any w h (hF g rfl) hmf hfz hcap hmax).mono ?_
    rintro e w' ⟨he, hm', hk'⟩
    have sv := hm'.sv xs.length gc (Nat.le_refl _) hcap hmax hok
    rw [← heq] at sv
    refine ⟨he, ⟨sv.len, sv.cap, sv.max, sv.nil, fun i x hx => ?_⟩, hk'.mono (fun k e => by rw [e]; rfl)⟩
    obtain ⟨q1, b, o, e, hb, r⟩ := sv.at' i x hx
    exact ⟨q1, b, o, e, by rw [hb]; rfl, r⟩
end Go.Proofs.YtkjnhhoniodbcaaGreatDoor

namespace Go.Proofs.YtkjnhhoniodbcaaGreatDoor
open Go.RowKit Plain
set_option linter.unusedVariables false
set_option maxRecDepth 100000

set_option maxHeartbeats 32000000 in
theorem placedS_any {F : Nat → Prop} {a : Option Addr} {c : Nat} {xs : List Srv} (p fr be : Int) (w : World) (hg : Gl w) (h : Sv w F a xs.length c xs) (hF : ∀ k, F k → k < w.heap.size) (hn : xs.length * 32 ≤ 140737488351232) :
    Calls Tryz.prog 13 #[.slice a xs.length c, .int .i64 p, .int .i64 fr, .int .i64 be] w fun e w' => e = .returned (.bool true) ∧ Kept No w w' := by
  have HS : Hid (Gl w ∧ Sv w F a xs.length c xs ∧ (∀ k, F k → k < w.heap.size)) := ⟨hg, h, hF⟩
  have HO : Hid (∀ W, Kept No w W → Calls Tryz.prog 31 #[.slice a xs.length c] W fun e w' => ∃ ga gc, e = .returned (.slice ga (othL xs xs.length).length gc) ∧ Sv w' (fun k => Bk9 ga k) ga (othL xs xs.length).length gc (othL xs xs.length) ∧ (∀ k, Bk9 ga k → W.heap.size ≤ k ∧ k < w'.heap.size) ∧ ((ga = none ∧ xs.length = 0) ∨ ∃ g f, ga = some ⟨g, 0, none⟩ ∧ Mf w' g xs.length f ∧ Fz w' g) ∧ Kept No W w') := fun W k => others_sv W (h.keep k) hn
  have HLL : Hid ((othL xs xs.length).length = xs.length) := othL_len _ _
  clear hg h hF hn
  generalize othL xs xs.length = os at *
  have o1 := HO.out w (Kept.refl _ _)
  go_enter Tryz.func13, Tryz.ntmps13
  go_upto_region 2 with (go_at_call 31; refine o1.mono ?_; rintro e w1 ⟨oa, oc, rfl, so, bo, mo, k1⟩; have H1 : Hid (Sv w1 (fun k => Bk9 oa k) oa os.length oc os ∧ (∀ k, Bk9 oa k → k < w1.heap.size) ∧ Kept No w w1) := ⟨so, fun k e => (bo k e).2, k1⟩; clear so bo mo k1 o1)
  have o2 := HO.out w1 H1.out.2.2
  go_upto_region 3 with (go_at_call 31; refine o2.mono ?_; rintro e w2 ⟨ga, gc, rfl, sg, bg, mg, k2⟩; have H2 : Hid (Sv w2 (fun k => Bk9 ga k) ga os.length gc os ∧ (∀ k, Bk9 ga k → w1.heap.size ≤ k ∧ k < w2.heap.size) ∧ ((ga = none ∧ xs.length = 0) ∨ ∃ g f, ga = some ⟨g, 0, none⟩ ∧ Mf w2 g xs.length f ∧ Fz w2 g) ∧ Kept No w1 w2) := ⟨sg, bg, mg, k2⟩; clear sg bg mg k2 o2)
  have HW2 : Hid (∀ W, Kept No w2 W → Gl W ∧ Sv W (fun k => Bk9 ga k) ga os.length gc os ∧ (∀ k, Bk9 ga k → k < W.heap.size)) := fun W k => ⟨HS.out.1.kept ((H1.out.2.2.trans H2.out.2.2.2 (fun _ h => h.elim)).trans k (fun _ h => h.elim)), H2.out.1.keep k, fun j e => Nat.lt_of_lt_of_le (H2.out.2.1 j e).2 k.size⟩
  have c1 := runs_all fr be w2 (HW2.out w2 (Kept.refl _ _)).1 (HW2.out w2 (Kept.refl _ _)).2.1 (HW2.out w2 (Kept.refl _ _)).2.2
  go_upto_region 4 with (go_at_call 5; refine c1.mono ?_; rintro e w3 ⟨v3, rfl, ho3, k3⟩; obtain ⟨la, lc, rfl, nl, _⟩ := Nq.of ho3; have H3 : Hid (Kept No w2 w3 ∧ Nq w3 (fun k => w2.heap.size ≤ k ∧ k < w3.heap.size) la (ruL os fr be).length lc (slF (ruL os fr be))) := ⟨k3, nl⟩; clear k3 c1 nl ho3)
  have c2 := supply_all p fr be w3 (HW2.out w3 H3.out.1).1 (HW2.out w3 H3.out.1).2.1 (HW2.out w3 H3.out.1).2.2
  go_upto_region 5 with (go_at_call 8; refine c2.mono ?_; rintro e w4 ⟨rfl, k4⟩; have H4 : Hid (Kept No w2 w4 ∧ Nq w4 (fun k => w2.heap.size ≤ k ∧ k < w3.heap.size) la (ruL os fr be).length lc (slF (ruL os fr be))) := ⟨H3.out.1.trans k4 (fun _ h => h.elim), H3.out.2.keep k4⟩; clear k4 c2)
  have c3 := next_all p fr w4 (HW2.out w4 H4.out.1).1 (HW2.out w4 H4.out.1).2.1 (HW2.out w4 H4.out.1).2.2
  go_upto_region 6 with (go_at_call 10; refine c3.mono ?_; rintro e w5 ⟨rfl, k5⟩; have H5 : Hid (Kept No w2 w5 ∧ Nq w5 (fun k => w2.heap.size ≤ k ∧ k < w3.heap.size) la (ruL os fr be).length lc (slF (ruL os fr be))) := ⟨H4.out.1.trans k5 (fun _ h => h.elim), H4.out.2.keep k5⟩; clear k5 c3 H3 H4)
  have KW : Hid (Kept No w w5) := (H1.out.2.2.trans H2.out.2.2.2 (fun _ h => h.elim)).trans H5.out.1 (fun _ h => h.elim)
  have ly := lay_all w5 (HS.out.2.1.keep KW.out) (fun k e hf => by have := HS.out.2.2 k hf; have := (H2.out.2.1 k e).1; have := H1.out.2.2.size; omega) (H2.out.1.keep H5.out.1) HLL.out (by
    rcases H2.out.2.2.1 with hh | ⟨g, f, e, m, z⟩
    · exact .inl hh
    · have hgl := (H2.out.2.1 g e).2
      refine .inr ⟨g, f, e, m.kept H5.out.1 (fun h => h), fun i => ?_⟩
      have eb := H5.out.1.block g hgl (fun h => h)
      have := z i
      simp only [World.frozen?] at this ⊢
      rw [eb]; exact this)
  go_upto_region 7 with (go_at_call 32; refine ly.mono ?_; rintro e w6 ⟨⟨v6, rfl⟩, s6, k6⟩; have H6 : Hid (Sv w6 (fun k => Bk9 ga k) ga xs.length gc xs ∧ Kept (fun j => Bk9 ga j) w5 w6) := ⟨s6, k6⟩; clear s6 k6 ly)
  have H7 : Hid (Kept No w w6 ∧ Sv w6 F a xs.length c xs ∧ (∀ k, F k → k < w6.heap.size) ∧ Sv w6 (fun k => Bk9 oa k) oa os.length oc os ∧ (∀ k, Bk9 oa k → k < w6.heap.size) ∧ Sv w6 (fun k => Bk9 ga k) ga xs.length gc xs ∧ (∀ k, Bk9 ga k → k < w6.heap.size) ∧ Nq w6 (fun k => w2.heap.size ≤ k ∧ k < w3.heap.size) la (ruL os fr be).length lc (slF (ruL os fr be))) := by
    have kk := KW.out
    have s1 := H1.out.2.2.size
    have s2 := H2.out.2.2.2.size
    have s5 := H5.out.1.size
    have s6 := H6.out.2.size
    refine ⟨kk.trans H6.out.2 (fun k e => .inr (by have := (H2.out.2.1 k e).1; omega)), (HS.out.2.1.keep kk).kept H6.out.2 (fun k hf e => by have := HS.out.2.2 k hf; have := (H2.out.2.1 k e).1; omega), fun k hf => by have := HS.out.2.2 k hf; omega, ((H1.out.1.keep H2.out.2.2.2).keep H5.out.1).kept H6.out.2 (fun k e1 e2 => by have := H1.out.2.1 k e1; have := (H2.out.2.1 k e2).1; omega), fun k e => by have := H1.out.2.1 k e; omega, H6.out.1, fun k e => by have := (H2.out.2.1 k e).2; omega, H5.out.2.kept H6.out.2 (fun k e1 e2 => by have := (H2.out.2.1 k e2).2; omega)⟩
  clear H1 H2 H5 H6 KW HO HW2
  have HG : Hid (∀ W, Kept No w6 W → Gl W ∧ Sv W (fun k => Bk9 ga k) ga xs.length gc xs ∧ (∀ k, Bk9 ga k → k < W.heap.size) ∧ Sv W F a xs.length c xs ∧ (∀ k, F k → k < W.heap.size) ∧ Sv W (fun k => Bk9 oa k) oa os.length oc os ∧ (∀ k, Bk9 oa k → k < W.heap.size)) := fun W k => ⟨HS.out.1.kept (H7.out.1.trans k (fun _ h => h.elim)), H7.out.2.2.2.2.2.1.keep k, fun j e => Nat.lt_of_lt_of_le (H7.out.2.2.2.2.2.2.1 j e) k.size, H7.out.2.1.keep k, fun j e => Nat.lt_of_lt_of_le (H7.out.2.2.1 j e) k.size, H7.out.2.2.2.1.keep k, fun j e => Nat.lt_of_lt_of_le (H7.out.2.2.2.2.1 j e) k.size⟩
  have HN : Hid (Nq w6 (fun k => w2.heap.size ≤ k ∧ k < w3.heap.size) la (ruL os fr be).length lc (slF (ruL os fr be)) ∧ Kept No w w6) := ⟨H7.out.2.2.2.2.2.2.2, H7.out.1⟩
  clear H7 HS
  have HRU : Hid (∀ W, Kept No w6 W → Calls Tryz.prog 5 #[.slice ga os.length gc, .int .i64 fr, .int .i64 be] W fun e w' => ∃ v, e = .returned (.tuple #[v, .int .i64 (ruE xs fr be)]) ∧ Ow w' W.heap.size v (ruL xs fr be) ∧ Kept No W w') := fun W k => by rw [HLL.out]; exact runs_all fr be W (HG.out W k).1 (HG.out W k).2.1 (HG.out W k).2.2.1
  have HSU : Hid (∀ W, Kept No w6 W → Calls Tryz.prog 8 #[.slice ga os.length gc, .int .i64 p, .int .i64 fr, .int .i64 be] W fun e w' => e = .returned (.tuple #[.int .i64 (suV xs p fr be), .int .i64 (suE xs p fr be)]) ∧ Kept No W w') := fun W k => by rw [HLL.out]; exact supply_all p fr be W (HG.out W k).1 (HG.out W k).2.1 (HG.out W k).2.2.1
  have HNX : Hid (∀ W, Kept No w6 W → Calls Tryz.prog 10 #[.slice ga os.length gc, .int .i64 p, .int .i64 fr] W fun e w' => e = .returned (.tuple #[.int .i64 (nxV xs p fr), .int .i64 (nxE xs p fr)]) ∧ Kept No W w') := fun W k => by rw [HLL.out]; exact next_all p fr W (HG.out W k).1 (HG.out W k).2.1 (HG.out W k).2.2.1
  have R1 : Hid (∀ W, Kept No w6 W → Calls Tryz.prog 6 #[.slice oa os.length oc, .int .i64 fr, .int .i64 be] W fun e w' => ∃ v, e = .returned (.tuple #[v, .int .i64 (ruE os fr be)]) ∧ Ow w' W.heap.size v (ruL os fr be) ∧ Kept No W w') := fun W k => refRuns_any fr be W (HG.out W k).2.2.2.2.2.1 (HG.out W k).2.2.2.2.2.2
  have R2 : Hid (∀ W, Kept No w6 W → Calls Tryz.prog 6 #[.slice a xs.length c, .int .i64 fr, .int .i64 be] W fun e w' => ∃ v, e = .returned (.tuple #[v, .int .i64 (ruE xs fr be)]) ∧ Ow w' W.heap.size v (ruL xs fr be) ∧ Kept No W w') := fun W k => refRuns_any fr be W (HG.out W k).2.2.2.1 (HG.out W k).2.2.2.2.1
  have S1 : Hid (∀ W, Kept No w6 W → Calls Tryz.prog 9 #[.slice oa os.length oc, .int .i64 p, .int .i64 fr, .int .i64 be] W fun e w' => e = .returned (.tuple #[.int .i64 (suV os p fr be), .int .i64 (suE os p fr be)]) ∧ Kept No W w') := fun W k => refSupply_any p fr be W (HG.out W k).2.2.2.2.2.1 (HG.out W k).2.2.2.2.2.2
  have S2 : Hid (∀ W, Kept No w6 W → Calls Tryz.prog 9 #[.slice a xs.length c, .int .i64 p, .int .i64 fr, .int .i64 be] W fun e w' => e = .returned (.tuple #[.int .i64 (suV xs p fr be), .int .i64 (suE xs p fr be)]) ∧ Kept No W w') := fun W k => refSupply_any p fr be W (HG.out W k).2.2.2.1 (HG.out W k).2.2.2.2.1
  have N1 : Hid (∀ W, Kept No w6 W → Calls Tryz.prog 11 #[.slice oa os.length oc, .int .i64 p, .int .i64 fr] W fun e w' => e = .returned (.tuple #[.int .i64 (nxV os p fr), .int .i64 (nxE os p fr)]) ∧ Kept No W w') := fun W k => refNext_any p fr W (HG.out W k).2.2.2.2.2.1 (HG.out W k).2.2.2.2.2.2
  have N2 : Hid (∀ W, Kept No w6 W → Calls Tryz.prog 11 #[.slice a xs.length c, .int .i64 p, .int .i64 fr] W fun e w' => e = .returned (.tuple #[.int .i64 (nxV xs p fr), .int .i64 (nxE xs p fr)]) ∧ Kept No W w') := fun W k => refNext_any p fr W (HG.out W k).2.2.2.1 (HG.out W k).2.2.2.2.1
  clear HG HLL
  generalize suV xs p fr be = V1 at *
  generalize suE xs p fr be = E1 at *
  generalize suV os p fr be = V2 at *
  generalize suE os p fr be = E2 at *
  generalize nxV xs p fr = X1 at *
  generalize nxE xs p fr = Y1 at *
  generalize nxV os p fr = X2 at *
  generalize nxE os p fr = Y2 at *
  generalize ruE xs fr be = U1 at *
  generalize ruE os fr be = U2 at *
  generalize ruL xs fr be = L1 at *
  generalize ruL os fr be = L2 at *
  have a1 := HRU.out w6 (Kept.refl _ _)
  go_upto_region 8 with (go_at_call 5; refine a1.mono ?_; rintro e w7 ⟨v7, rfl, ho7, k7⟩; obtain ⟨ma, mc, rfl, nm, _⟩ := Nq.of ho7; have K7 : Hid (Kept No w6 w7 ∧ Nq w7 (fun k => w6.heap.size ≤ k ∧ k < w7.heap.size) ma L1.length mc (slF L1)) := ⟨k7, nm⟩; clear k7 a1 nm ho7)
  have a2 := HSU.out w7 K7.out.1
  go_upto_region 9 with (go_at_call 8; refine a2.mono ?_; rintro e w8 ⟨rfl, k8⟩; have K8 : Hid (Kept No w7 w8) := k8; clear k8 a2)
  have a3 := HNX.out w8 (K7.out.1.trans K8.out (fun _ h => h.elim))
  go_upto_region 10 with (go_at_call 10; refine a3.mono ?_; rintro e w9 ⟨rfl, k9⟩; have K9 : Hid (Kept No w7 w9) := K8.out.trans k9 (fun _ h => h.elim); clear k9 a3)
  have a4 := R1.out w9 (K7.out.1.trans K9.out (fun _ h => h.elim))
  go_upto_region 11 with (go_at_call 6; refine a4.mono ?_; rintro e w10 ⟨v10, rfl, ho10, k10⟩; obtain ⟨xa, xc, rfl, nx, _⟩ := Nq.of ho10; have K10 : Hid (Kept No w7 w10 ∧ Nq w10 (fun k => w9.heap.size ≤ k ∧ k < w10.heap.size) xa L2.length xc (slF L2)) := ⟨K9.out.trans k10 (fun _ h => h.elim), nx⟩; clear k10 a4 nx ho10)
  have a5 := R2.out w10 (K7.out.1.trans K10.out.1 (fun _ h => h.elim))
  go_upto_region 12 with (go_at_call 6; refine a5.mono ?_; rintro e w11 ⟨v11, rfl, ho11, k11⟩; obtain ⟨ya, yc, rfl, ny, _⟩ := Nq.of ho11; have K11 : Hid (Kept No w6 w11 ∧ Nq w11 (fun k => w2.heap.size ≤ k ∧ k < w3.heap.size) la L2.length lc (slF L2) ∧ Nq w11 (fun k => w6.heap.size ≤ k ∧ k < w7.heap.size) ma L1.length mc (slF L1) ∧ Nq w11 (fun k => w9.heap.size ≤ k ∧ k < w10.heap.size) xa L2.length xc (slF L2) ∧ Nq w11 (fun k => w10.heap.size ≤ k ∧ k < w11.heap.size) ya L1.length yc (slF L1)) := ⟨(K7.out.1.trans K10.out.1 (fun _ h => h.elim)).trans k11 (fun _ h => h.elim), HN.out.1.keep ((K7.out.1.trans K10.out.1 (fun _ h => h.elim)).trans k11 (fun _ h => h.elim)), (K7.out.2.keep K10.out.1).keep k11, K10.out.2.keep k11, ny⟩; clear k11 a5 ny ho11)
  clear K7 K8 K9 K10 HRU HSU HNX R1 R2
  have t1 := sameS_yes w11 K11.out.2.1 K11.out.2.2.2.1
  have HT2 : Hid (∀ W, Kept No w11 W → Calls Tryz.prog 7 #[.slice ma L1.length mc, .slice ya L1.length yc] W fun e w' => e = .returned (.bool true) ∧ Kept No W w') := fun W k => sameS_yes W (K11.out.2.2.1.keep k) (K11.out.2.2.2.2.keep k)
  have KB : Hid (Kept No w6 w11 ∧ Kept No w w6) := ⟨K11.out.1, HN.out.2⟩
  clear K11 HN
  go_wp2_with (first
    | (go_at_call 7; refine t1.mono ?_; rintro e w12 ⟨rfl, k12⟩; have K12 : Hid (Kept No w11 w12) := k12; have t2 := HT2.out w12 k12; clear k12 t1)
    | (go_at_call 7; refine t2.mono ?_; rintro e w13 ⟨rfl, k13⟩; have K13 : Hid (Kept No w6 w13) := KB.out.1.trans (K12.out.trans k13 (fun _ h => h.elim)) (fun _ h => h.elim); have b1 := S1.out w13 K13.out; clear k13 t2)
    | (go_at_call 9; refine b1.mono ?_; rintro e w14 ⟨rfl, k14⟩; have K14 : Hid (Kept No w6 w14) := K13.out.trans k14 (fun _ h => h.elim); have b2 := S2.out w14 K14.out; clear k14 b1)
    | (go_at_call 9; refine b2.mono ?_; rintro e w15 ⟨rfl, k15⟩; have K15 : Hid (Kept No w6 w15) := K14.out.trans k15 (fun _ h => h.elim); have b3 := N1.out w15 K15.out; clear k15 b2)
    | (go_at_call 11; refine b3.mono ?_; rintro e w16 ⟨rfl, k16⟩; have K16 : Hid (Kept No w6 w16) := K15.out.trans k16 (fun _ h => h.elim); have b4 := N2.out w16 K16.out; clear k16 b3)
    | (go_at_call 11; refine b4.mono ?_; rintro e w17 ⟨rfl, k17⟩; have K17 : Hid (Kept No w6 w17) := K16.out.trans k17 (fun _ h => h.elim); clear k17 b4))
  go_ret
  exact ⟨rfl, KB.out.2.trans K17.out (fun _ h => h.elim)⟩
end Go.Proofs.YtkjnhhoniodbcaaGreatDoor
