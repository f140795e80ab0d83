/-
  The walk of CheckServers.
-/
import Derived.Test.YtgjgaljdjkliaaaDoorCLaw
import Derived.Laws.StructEq
namespace Go.Proofs.YtgjgaljdjkliaaaDoor
open Go.RowKit Plain
set_option linter.unusedVariables false
set_option linter.unusedSimpArgs false
set_option maxRecDepth 100000

/-- what the law turns a server into -/
def tu (x : Srv) : Srv := ⟨x.p, wrap64 (wrap64 (Int.tdiv x.b 2) + 1), wrap64 (x.o + 1), x.q⟩
theorem wrap_I6 (x : Int) : I6 (wrap64 x) := by unfold I6 wrap64; omega
theorem tu_ok {x : Srv} (h : x.ok) : (tu x).ok := ⟨h.1, wrap_I6 _, wrap_I6 _, h.2.2.2⟩

set_option maxHeartbeats 2000000 in
theorem servers_many (a : Option Addr) (n c : Nat) (w : World) (hg : Gl w) (hn : 70000 < n) (hm : n ≤ 9223372036854775807) :
    Calls Tryd.prog 3 #[.slice a n c] w fun e w' => e = .returned (.bool true) ∧ Below w.heap.size w w' := by
  have hc := lives_any w hg
  clear hg
  go_enter Tryd.func3, Tryd.ntmps3
  go_wp2_with (go_at_call 4; refine hc.mono ?_; rintro e w1 ⟨rfl, hk1⟩; have HK1 : Hid (Kept No w w1) := hk1; clear hk1)
  go_ret
  exact ⟨rfl, HK1.out.below0⟩

theorem own0 {b k n c : Nat} (h : (Value.slice (some ⟨b, 0, none⟩) n c).ownBlock = some k) : b ≤ k := by
  injection h with h; exact Nat.le_of_eq h
theorem eqS (w : World) (p b o q : Int) : (Op.equalIn 10000 25 (.agg #[.int .i64 p, .int .i64 b, .int .i64 o, .int .i64 q]) (.agg #[.int .i64 p, .int .i64 b, .int .i64 o, .int .i64 q])).run Tryd.prog w = .ok true w := by
  rw [show (10000 : Nat) = 9999 + 1 from rfl, run_equalIn_struct w 9999 _ _ _ (by kernel_rfl) (by kernel_rfl)]
  simp [go_sem, Tryd.underlying25]
theorem er_neqS {w : World} {a : Act} {o : Oper} (x y : Operand) (ho : o.op = .binOp .neq 25 x y 25) (p b f q : Int) (hx : a.eval x = .agg #[.int .i64 p, .int .i64 b, .int .i64 f, .int .i64 q]) (hy : a.eval y = .agg #[.int .i64 p, .int .i64 b, .int .i64 f, .int .i64 q]) : (execOp a.eval o).run Tryd.prog w = .ok (.value (.bool false)) w := by
  have hm : Tryd.prog.eqGuardType Tryd.prog.depth 25 = false := by kernel_rfl
  simp only [execOp, ho, hx, hy]
  simp [run_eqGuard_agg w _ _ _ _ _ _ hm, run_neq_struct, eqS, go_sem]
theorem er_idxS {w : World} {a : Act} {o : Oper} (x y : Operand) (ho : o.op = .indexAddr 22 x y) (b off n c d : Nat) (hd : d < n) (hn : n ≤ 9223372036854775807) (hx : a.eval x = .slice (some ⟨b, off, none⟩) n c) (hy : a.eval y = .int .i64 d) : (execOp a.eval o).run Tryd.prog w = .ok (.value (.pointer (some ⟨b, off + d * 4, none⟩))) w := by
  simp only [execOp, ho, hx, hy]
  simp [go_sem, add_none]
  omega
theorem ldS (w : World) (b off : Nat) (p d f q : Int) (h0 : w.cell? ⟨b, off, none⟩ = some (.int .i64 p)) (h1 : w.cell? ⟨b, off + 1, none⟩ = some (.int .i64 d)) (h2 : w.cell? ⟨b, off + 2, none⟩ = some (.int .i64 f)) (h3 : w.cell? ⟨b, off + 3, none⟩ = some (.int .i64 q)) : (Instr.loadAt 25 (.pointer (some ⟨b, off, none⟩))).run Tryd.prog w = .ok (.agg #[.int .i64 p, .int .i64 d, .int .i64 f, .int .i64 q]) w := by
  simp [go_sem, h0, h1, h2, h3]
/-- one server turned in its place -/
theorem Mf.turn {wr : World} {g k j : Nat} {X : Nat → Srv} (h : Mf wr g k (fun i => if i < j then tu (X i) else X i)) (hj : j < k) :
    Mf ((wr.setCell ⟨g, j * 4 + 2, none⟩ (.int .i64 (wrap64 ((X j).o + 1)))).setCell ⟨g, j * 4 + 1, none⟩ (.int .i64 (wrap64 (wrap64 (Int.tdiv (X j).b 2) + 1)))) g k (fun i => if i < j + 1 then tu (X i) else X i) := by
  have key : ∀ off v, wr.cell? ⟨g, off, none⟩ = some v → off ≠ j * 4 + 1 → off ≠ j * 4 + 2 → ((wr.setCell ⟨g, j * 4 + 2, none⟩ (.int .i64 (wrap64 ((X j).o + 1)))).setCell ⟨g, j * 4 + 1, none⟩ (.int .i64 (wrap64 (wrap64 (Int.tdiv (X j).b 2) + 1)))).cell? ⟨g, off, none⟩ = some v := by
    intro off v hv h1 h2
    rw [World.cell?_setCell_other _ _ _ _ (by intro e; injection e with _ e2; exact h1 e2.symm), World.cell?_setCell_other _ _ _ _ (by intro e; injection e with _ e2; exact h2 e2.symm)]
    exact hv
  intro i hi
  obtain ⟨c0, c1, c2, c3⟩ := h i hi
  by_cases hij : i = j
  · subst hij
    simp only [Nat.lt_irrefl, if_false] at c0 c1 c2 c3
    simp only [Nat.lt_succ_self, if_true]
    have e1 : (wr.setCell ⟨g, i * 4 + 2, none⟩ (.int .i64 (wrap64 ((X i).o + 1)))).cell? ⟨g, i * 4 + 1, none⟩ = some (.int .i64 (X i).b) := by
      rw [World.cell?_setCell_other _ _ _ _ (by simp)]; exact c1
    refine ⟨key _ _ c0 (by omega) (by omega), World.cell?_setCell_same _ _ _ e1, ?_, key _ _ c3 (by omega) (by omega)⟩
    rw [World.cell?_setCell_other _ _ _ _ (by simp)]
    exact World.cell?_setCell_same _ _ _ c2
  · have e : (if i < j + 1 then tu (X i) else X i) = (if i < j then tu (X i) else X i) := by
      by_cases h1 : i < j
      · rw [if_pos (by omega), if_pos h1]
      · rw [if_neg (by omega), if_neg h1]
    simp only [e]
    exact ⟨key _ _ c0 (by omega) (by omega), key _ _ c1 (by omega) (by omega), key _ _ c2 (by omega) (by omega), key _ _ c3 (by omega) (by omega)⟩
theorem Fz.set {w : World} {g : Nat} (h : Fz w g) (p : Addr) (v : Value) : Fz (w.setCell p v) g := fun i => by rw [World.frozen?_setCell]; exact h i
theorem Fz.kept {w w' : World} {g : Nat} {G : Nat → Prop} (h : Fz w g) (k : Kept G w w') (hg : ¬ G g) (hl : g < w.heap.size) : Fz w' g := fun i => by
  have := h i
  obtain ⟨o, ho⟩ : ∃ o, w.heap[g]? = some o := ⟨_, Array.getElem?_eq_getElem hl⟩
  have e := k.at' ho hg
  simp only [World.frozen?, ho] at this
  simp only [World.frozen?, e]
  exact this
def m7 : Srv := ⟨-7, 0, 0, 0⟩

set_option maxHeartbeats 16000000 in
theorem servers_walk (F : Nat → Prop) (a : Option Addr) (n c : Nat) (xs : List Srv) (w : World) (hg : Gl w) (h : Sv w F a n c xs) (hn : n ≤ 70000) :
    Calls Tryd.prog 3 #[.slice a n c] w fun e w' => e = .returned (.bool true) ∧ Below w.heap.size w w' := by
  obtain ⟨i0, hi, hz0, hz1, hz2⟩ := info_parts Tryd.infoS
  have hcl := lives_any w hg
  have HG : Hid (Gl w) := hg
  have H : Hid (Sv w F a n c xs) := h
  clear hg h
  go_enter Tryd.func3, Tryd.ntmps3
  go_upto_region 4 with (first
    | (go_at_call 4; refine hcl.mono ?_; rintro e w1 ⟨rfl, hk1⟩; have HK1 : Hid (Kept No w w1) := hk1; clear hk1)
    | (at_builtin; refine wpList_cp rfl _ _ rfl w1.heap.size _ rfl (made0 w1) (by simp) a n c rfl F xs (H.out.keep (HK1.out.alloc _)) hn ?_; intro v1 w2 OW2 KW2)
    | (at_builtin; refine wpList_append_own_at _ rfl _ _ 22 rfl w1.heap.size 25 i0 (.agg #[.int .i64 0, .int .i64 0, .int .i64 0, .int .i64 0]) 4 32 Tryd.underlying22 hi hz0 hz1 hz2 rfl (by decide) _ _ _ rfl (OW2.out.alloc _) ⟨w2.heap.size, 0, none⟩ 1 1 (fl [m7]) rfl rfl (cell_four w2 m7 _) (fl_one _) (by unfold maxLen; omega) (by omega) (by have := KW2.out.size; simp at this ⊢; omega) ?_; intro v2 w3 own3 grow3 _ at3))
  have hl3 : (xs ++ [m7]).length = n + 1 := by rw [List.length_append, H.out.len]; rfl
  rw [← fl_app] at own3
  rcases own_mf own3 hl3 with ⟨_, h0⟩ | ⟨g, cap, rfl, hbg, hgl, hcp, hcm, hmf, hfz⟩
  · omega
  have HK3 : Hid (Kept No w w3) := by
    have k1 := HK1.out.alloc (.cells #[] 25)
    have k2 : Kept No w w2 := k1.trans KW2.out (fun k e => .inr (by have e2 := own0 e; have := HK1.out.size; omega))
    exact (k2.alloc _).grown grow3 (fun k e => .inr (by have := (OW2.out.lt k e).1; have := HK1.out.size; omega))
  have HGW : Hid (w.heap.size ≤ g) := by
    have h1 := HK1.out.size
    exact Nat.le_trans h1 hbg
  have HX : Hid (∀ i, i < n → (xs ++ [m7]).getD i ⟨0, 0, 0, 0⟩ = xs.getD i ⟨0, 0, 0, 0⟩) := fun i hi => by
    simp only [List.getD_eq_getElem?_getD]
    rw [List.getElem?_append_left (by rw [H.out.len]; exact hi)]
  have HMF : Hid (Mf w3 g n (fun i => xs.getD i ⟨0, 0, 0, 0⟩)) := fun i hi => by
    have := hmf i (by omega)
    simp only [HX.out i hi] at this
    exact this
  have HM7 : Hid (w3.cell? ⟨g, n * 4, none⟩ = some (.int .i64 (-7))) := by
    have := (hmf n (by omega)).1
    have e : (xs ++ [m7]).getD n ⟨0, 0, 0, 0⟩ = m7 := by
      simp only [List.getD_eq_getElem?_getD]
      rw [List.getElem?_append_right (by rw [H.out.len]; exact Nat.le_refl _), H.out.len, Nat.sub_self]
      rfl
    simp only [e] at this
    exact this
  have HFZ : Hid (Fz w3 g) := hfz
  have HGL : Hid (g < w3.heap.size) := hgl
  have HS : Hid (Sv w3 (fun b => b = g) (some ⟨g, 0, none⟩) n cap xs) := by
    have h1 := HMF.out.sv n cap (Nat.le_refl _) (by omega) hcm (fun i hi => H.out.ok i hi)
    have h2 := H.out.eq
    rw [← h2] at h1
    exact h1
  have HLS : Hid (Sv w3 F a n c xs) := H.out.keep HK3.out
  have C5 : Hid (∀ w', Kept No w3 w' → Calls Tryd.prog 5 #[.slice (some ⟨g, 0, none⟩) n cap] w' fun e w'' => e = .returned (.tuple #[.int .i64 (fe (findF xs n)), .int .i64 (fn (findF xs n))]) ∧ Kept No w3 w'') := fun w' hw => (servers_any _ _ n cap xs w' (HG.out.kept (HK3.out.trans hw (fun _ h => h.elim))) (HS.out.keep hw)).mono (fun e w'' he => ⟨he.1, hw.trans he.2 (fun _ h => h.elim)⟩)
  have C6 : Hid (∀ w', Kept No w3 w' → Calls Tryd.prog 6 #[.slice a n c] w' fun e w'' => e = .returned (.tuple #[.int .i64 (fe (findF xs n)), .int .i64 (fn (findF xs n))]) ∧ Kept No w3 w'') := fun w' hw => (rservers_any _ _ n c xs w' (HLS.out.keep hw)).mono (fun e w'' he => ⟨he.1, hw.trans he.2 (fun _ h => h.elim)⟩)
  have C7 : Hid (∀ w', Kept No w3 w' → Calls Tryd.prog 7 #[.slice (some ⟨g, 0, none⟩) n cap] w' fun e w'' => e = .returned (.tuple #[.int .i64 (hyV xs n), .int .i64 (hyE xs n)]) ∧ Kept No w3 w'') := fun w' hw => (hyper_any _ _ n cap xs w' (HG.out.kept (HK3.out.trans hw (fun _ h => h.elim))) (HS.out.keep hw)).mono (fun e w'' he => ⟨he.1, hw.trans he.2 (fun _ h => h.elim)⟩)
  have C8 : Hid (∀ w', Kept No w3 w' → Calls Tryd.prog 8 #[.slice a n c] w' fun e w'' => e = .returned (.tuple #[.int .i64 (hyV xs n), .int .i64 (hyE xs n)]) ∧ Kept No w3 w'') := fun w' hw => (rHyper_any _ _ n c xs w' (HLS.out.keep hw)).mono (fun e w'' he => ⟨he.1, hw.trans he.2 (fun _ h => h.elim)⟩)
  have hnN : n < n + 1 := by omega
  have hNm : n + 1 ≤ 70001 := by omega
  clear own3 grow3 at3 OW2 KW2 HK1 hcl hmf hl3 hfz hgl hbg HX hz0 hz1 hz2 hi HS
  generalize hN : n + 1 = N at *
  clear hN
  generalize fe (findF xs n) = e1 at *
  generalize fn (findF xs n) = e2 at *
  generalize hyV xs n = e3 at *
  generalize hyE xs n = e4 at *
  go_upto_region 9 with (first
    | (go_at_call 5; refine (C5.out _ (Kept.refl No _)).mono ?_; rintro e w4 ⟨rfl, k4⟩; have K4 : Hid (Kept No w3 w4) := k4; clear k4)
    | (go_at_call 6; refine (C6.out _ K4.out).mono ?_; rintro e w5 ⟨rfl, k5⟩; have K5 : Hid (Kept No w3 w5) := k5; clear k5)
    | (go_at_call 7; refine (C7.out _ K5.out).mono ?_; rintro e w6 ⟨rfl, k6⟩; have K6 : Hid (Kept No w3 w6) := k6; clear k6)
    | (go_at_call 8; refine (C8.out _ K6.out).mono ?_; rintro e w7 ⟨rfl, k7⟩; have K7 : Hid (Kept No w3 w7) := k7; clear k7))
  clear C5 C6 C7 C8 K4 K5 K6
  have hm7 : w7.cell? ⟨g, n * 4, none⟩ = some (.int .i64 (-7)) := K7.out.cell HM7.out (fun h => h)
  go_wp2
  clear hm7
  go_loopw [13] (fun x wr => ∃ k : Nat, k ≤ n ∧ x = .int .i64 k ∧ Kept No w7 wr) (fun x _ => n - (intOf x).toNat)
  case atStart => exact ⟨0, by omega, rfl, Kept.refl No w7⟩
  case round =>
    obtain ⟨k, hk, rfl, hkr⟩ := hrel
    by_cases hlt : k < n
    · have hx : xs[k]? = some (xs.getD k ⟨0, 0, 0, 0⟩) := by rw [List.getD, List.getElem?_eq_getElem (by rw [H.out.len]; exact hlt)]; rfl
      obtain ⟨hok, b, o, rfl, hb, c0, c1, c2, c3⟩ := (HLS.out.keep K7.out).at' k _ hx
      obtain ⟨d0, d1, d2, d3⟩ := (HMF.out.kept K7.out (fun h => h)) k hlt
      have hkN : k < N := by omega
      simp only at d0 d1 d2 d3
      clear hx hok
      generalize xs.getD k ⟨0, 0, 0, 0⟩ = y at *
      obtain ⟨yp, yb, yo, yq⟩ := y
      simp only at c0 c1 c2 c3 d0 d1 d2 d3
      have L1 : Hid (∀ w5, Kept No w7 w5 → (Instr.loadAt 25 (.pointer (some ⟨g, 0 + k * 4, none⟩))).run Tryd.prog w5 = .ok (.agg #[.int .i64 yp, .int .i64 yb, .int .i64 yo, .int .i64 yq]) w5) := fun w5 h5 => by
        rw [Nat.zero_add]
        exact ldS w5 g (k * 4) yp yb yo yq (h5.cell d0 (fun h => h)) (h5.cell d1 (fun h => h)) (h5.cell d2 (fun h => h)) (h5.cell d3 (fun h => h))
      have L2 : Hid (∀ w5, Kept No w7 w5 → (Instr.loadAt 25 (.pointer (some ⟨b, o + k * 4, none⟩))).run Tryd.prog w5 = .ok (.agg #[.int .i64 yp, .int .i64 yb, .int .i64 yo, .int .i64 yq]) w5) := fun w5 h5 => ldS w5 b (o + k * 4) yp yb yo yq (h5.cell c0 (fun h => h)) (h5.cell c1 (fun h => h)) (h5.cell c2 (fun h => h)) (h5.cell c3 (fun h => h))
      have HKR : Hid (Kept No w7 wr) := hkr
      clear c0 c1 c2 c3 d0 d1 d2 d3 hkr
      go_upto_region 14 with fail
      refine wp_region_kept w7 (by kernel_rfl) (by kernel_rfl) HKR.out ?_
      refine BigFrame.wpQuiet_want rfl (fun K hK => ?_)
      refine quiet_val' (fun w5 hw5 => er_mv _ rfl (.slice (some ⟨g, 0, none⟩) N cap) rfl) ?_
      refine hK _ ?_
      clear hK K
      simp only [Act.put, List.setIfInBounds_toArray, List.set_cons_zero, List.set_cons_succ]
      refine BigFrame.wpQuiet_want rfl (fun K hK => ?_)
      refine quiet_val' (fun w5 hw5 => er_mv _ rfl (.int .i64 k) rfl) ?_
      refine hK _ ?_
      clear hK K
      simp only [Act.put, List.setIfInBounds_toArray, List.set_cons_zero, List.set_cons_succ]
      refine BigFrame.wpQuiet_want rfl (fun K hK => ?_)
      refine quiet_val' (fun w5 hw5 => er_idxS _ _ rfl g 0 N cap k hkN (by omega) rfl rfl) ?_
      refine hK _ ?_
      clear hK K
      simp only [Act.put, List.setIfInBounds_toArray, List.set_cons_zero, List.set_cons_succ]
      refine BigFrame.wpQuiet_want rfl (fun K hK => ?_)
      refine quiet_val' (fun w5 hw5 => er_ld _ _ rfl _ _ rfl (L1.out w5 hw5)) ?_
      refine hK _ ?_
      clear hK K
      simp only [Act.put, List.setIfInBounds_toArray, List.set_cons_zero, List.set_cons_succ]
      refine BigFrame.wpQuiet_want rfl (fun K hK => ?_)
      refine quiet_val' (fun w5 hw5 => er_mv _ rfl (.slice (some ⟨b, o, none⟩) n c) rfl) ?_
      refine hK _ ?_
      clear hK K
      simp only [Act.put, List.setIfInBounds_toArray, List.set_cons_zero, List.set_cons_succ]
      refine BigFrame.wpQuiet_want rfl (fun K hK => ?_)
      refine quiet_val' (fun w5 hw5 => er_mv _ rfl (.int .i64 k) rfl) ?_
      refine hK _ ?_
      clear hK K
      simp only [Act.put, List.setIfInBounds_toArray, List.set_cons_zero, List.set_cons_succ]
      refine BigFrame.wpQuiet_want rfl (fun K hK => ?_)
      refine quiet_val' (fun w5 hw5 => er_idxS _ _ rfl b o n c k hlt (by omega) rfl rfl) ?_
      refine hK _ ?_
      clear hK K
      simp only [Act.put, List.setIfInBounds_toArray, List.set_cons_zero, List.set_cons_succ]
      refine BigFrame.wpQuiet_want rfl (fun K hK => ?_)
      refine quiet_val' (fun w5 hw5 => er_ld _ _ rfl _ _ rfl (L2.out w5 hw5)) ?_
      refine hK _ ?_
      clear hK K
      simp only [Act.put, List.setIfInBounds_toArray, List.set_cons_zero, List.set_cons_succ]
      refine BigFrame.wpQuiet_want rfl (fun K hK => ?_)
      refine quiet_val' (fun w5 hw5 => er_neqS _ _ rfl yp yb yo yq rfl rfl) ?_
      refine hK _ ?_
      clear hK K
      simp only [Act.put, List.setIfInBounds_toArray, List.set_cons_zero, List.set_cons_succ]
      refine wpQuiet_nil ?_
      intro w8 hw8
      have HW8 : Hid (Kept No w7 w8) := hw8
      clear hw8 L1 L2 HKR
      go_wp2
      go_roundw
      case rel => exact ⟨k + 1, by omega, by go_num, HW8.out⟩
      case measure => simp [intOf]; omega
    · have hke : k = n := by omega
      subst hke
      have K8 : Hid (Kept No w3 wr) := K7.out.trans hkr (fun _ h => h.elim)
      clear hkr K7
      generalize wr = w8 at *
      go_wp2
      have HM8 : Hid (Mf w8 g k (fun i => if i < 0 then tu (xs.getD i ⟨0, 0, 0, 0⟩) else xs.getD i ⟨0, 0, 0, 0⟩)) := fun i hi => by
        have := (HMF.out.kept K8.out (fun h => h)) i hi
        simpa using this
      have HF8 : Hid (Fz w8 g) := fun i => by
        have := HFZ.out i
        obtain ⟨o, ho⟩ : ∃ o, w3.heap[g]? = some o := ⟨_, Array.getElem?_eq_getElem HGL.out⟩
        have e := K8.out.at' ho (fun h => h)
        simp only [World.frozen?, ho] at this
        simp only [World.frozen?, e]
        exact this
      have HG8 : Hid (g < w8.heap.size) := Nat.lt_of_lt_of_le HGL.out K8.out.size
      clear HMF HFZ HGL HM7
      obtain ⟨i0, hi, hz0, hz1, hz2⟩ := info_parts Tryd.infoS
      go_loopw [14, 15] (fun v x wr => ∃ j : Nat, j ≤ k ∧ x = .int .i64 j ∧ Kept (fun b => b = g) w8 wr ∧ Mf wr g k (fun i => if i < j then tu (xs.getD i ⟨0, 0, 0, 0⟩) else xs.getD i ⟨0, 0, 0, 0⟩) ∧ Fz wr g ∧ wr.ownsRow w8.heap.size 25 4 v j (fl ((List.range j).map fun i => tu (xs.getD i ⟨0, 0, 0, 0⟩)))) (fun _ x _ => k - (intOf x).toNat)
      case atStart => exact ⟨0, by omega, rfl, Kept.refl _ w8, HM8.out, HF8.out, ⟨rfl, .inl ⟨rfl, rfl⟩⟩⟩
      case round =>
        clear HM8 HF8
        obtain ⟨j, hj, rfl, hkr, hmf, hfz, hown⟩ := hrel
        have HKR : Hid (Kept (fun b => b = g) w8 wr) := hkr
        have HMR : Hid (Mf wr g k (fun i => if i < j then tu (xs.getD i ⟨0, 0, 0, 0⟩) else xs.getD i ⟨0, 0, 0, 0⟩)) := hmf
        have HFR : Hid (Fz wr g) := hfz
        have HOW : Hid (wr.ownsRow w8.heap.size 25 4 u14 j (fl ((List.range j).map fun i => tu (xs.getD i ⟨0, 0, 0, 0⟩)))) := hown
        by_cases hlt : j < k
        · obtain ⟨d0, d1, d2, d3⟩ := hmf j hlt
          simp only [Nat.lt_irrefl, if_false] at d0 d1 d2 d3
          have f1 := hfz (j * 4 + 1)
          have f2 := hfz (j * 4 + 2)
          have hjN : j < N := by omega
          clear hkr hmf hfz hown
          have HY : Hid (∀ z, z = xs.getD j ⟨0, 0, 0, 0⟩ → (List.range (j + 1)).map (fun i => tu (xs.getD i ⟨0, 0, 0, 0⟩)) = (List.range j).map (fun i => tu (xs.getD i ⟨0, 0, 0, 0⟩)) ++ [tu z]) := fun z hz => by subst hz; simp [List.range_succ]
          obtain ⟨y, hy⟩ : ∃ y, y = xs.getD j ⟨0, 0, 0, 0⟩ := ⟨_, rfl⟩
          rw [← hy] at d0 d1 d2 d3
          have HYY : Hid (y = xs.getD j ⟨0, 0, 0, 0⟩) := hy
          clear hy
          obtain ⟨yp, yb, yo, yq⟩ := y
          simp only at d0 d1 d2 d3
          have HT : Hid (Mf ((wr.setCell ⟨g, j * 4 + 2, none⟩ (.int .i64 (wrap64 (yo + 1)))).setCell ⟨g, j * 4 + 1, none⟩ (.int .i64 (wrap64 (wrap64 (Int.tdiv yb 2) + 1)))) g k (fun i => if i < j + 1 then tu (xs.getD i ⟨0, 0, 0, 0⟩) else xs.getD i ⟨0, 0, 0, 0⟩)) := by
            have := Mf.turn (X := fun i => xs.getD i ⟨0, 0, 0, 0⟩) HMR.out hlt
            simp only [← HYY.out] at this
            exact this
          have HFT : Hid (Fz ((wr.setCell ⟨g, j * 4 + 2, none⟩ (.int .i64 (wrap64 (yo + 1)))).setCell ⟨g, j * 4 + 1, none⟩ (.int .i64 (wrap64 (wrap64 (Int.tdiv yb 2) + 1)))) g) := (HFR.out.set _ _).set _ _
          have HKT : Hid (Kept (fun b => b = g) wr ((wr.setCell ⟨g, j * 4 + 2, none⟩ (.int .i64 (wrap64 (yo + 1)))).setCell ⟨g, j * 4 + 1, none⟩ (.int .i64 (wrap64 (wrap64 (Int.tdiv yb 2) + 1))))) := by
            have t1 : Kept (fun b => b = g) wr (wr.setCell ⟨g, j * 4 + 2, none⟩ (.int .i64 (wrap64 (yo + 1)))) := Kept.setCell (Kept.refl (fun b => b = g) wr) (p := ⟨g, j * 4 + 2, none⟩) (.inl rfl) _
            exact Kept.setCell t1 (p := ⟨g, j * 4 + 1, none⟩) (.inl rfl) _
          go_upto_region 22 with fail
          clear d0 d1 d2 d3 f1 f2
          generalize (wr.setCell ⟨g, j * 4 + 2, none⟩ (.int .i64 (wrap64 (yo + 1)))).setCell ⟨g, j * 4 + 1, none⟩ (.int .i64 (wrap64 (wrap64 (Int.tdiv yb 2) + 1))) = w9 at *
          have HK9 : Hid (Kept (fun b => b = g) w8 w9) := HKR.out.trans HKT.out (fun b h => .inl h)
          have HO9 : Hid (w9.ownsRow w8.heap.size 25 4 u14 j (fl ((List.range j).map fun i => tu (xs.getD i ⟨0, 0, 0, 0⟩)))) := HKT.out.owns HOW.out (fun b hb e => by have := (HOW.out.lt b hb).1; have := HG8.out; omega)
          obtain ⟨d0, d1, d2, d3⟩ := HT.out j hlt
          simp only [Nat.lt_succ_self, if_true, ← HYY.out] at d0 d1 d2 d3
          have HYN := HY.out _ HYY.out
          have HYN : Hid ((List.range (j + 1)).map (fun i => tu (xs.getD i ⟨0, 0, 0, 0⟩)) = (List.range j).map (fun i => tu (xs.getD i ⟨0, 0, 0, 0⟩)) ++ [tu ⟨yp, yb, yo, yq⟩]) := HYN
          have HLN : Hid (((List.range j).map (fun i => tu (xs.getD i ⟨0, 0, 0, 0⟩))).length = j) := by show ((List.range j).map (fun i => tu (xs.getD i ⟨0, 0, 0, 0⟩))).length = j; simp
          clear HY HYY HKR HMR HFR HOW HKT
          generalize hty : tu ⟨yp, yb, yo, yq⟩ = ty at *
          clear hty
          obtain ⟨tp, tb2, to2, tq⟩ := ty
          simp only at d0 d1 d2 d3
          go_wp2_with (at_builtin; refine wpList_append_own_at _ rfl _ _ 22 rfl w8.heap.size 25 i0 (.agg #[.int .i64 0, .int .i64 0, .int .i64 0, .int .i64 0]) 4 32 Tryd.underlying22 hi hz0 hz1 hz2 rfl (by decide) _ _ _ rfl (HO9.out.alloc _) ⟨w9.heap.size, 0, none⟩ 1 1 (fl [⟨tp, tb2, to2, tq⟩]) rfl rfl (cell_four w9 ⟨tp, tb2, to2, tq⟩ _) (fl_one _) (by unfold maxLen; omega) (by omega) (by have := HK9.out.size; simp; omega) ?_; intro v9 w10 own10 grow10 _ at10)
          have HN : Hid (Kept (fun b => b = g) w8 w10 ∧ Mf w10 g k (fun i => if i < j + 1 then tu (xs.getD i ⟨0, 0, 0, 0⟩) else xs.getD i ⟨0, 0, 0, 0⟩) ∧ Fz w10 g ∧ w10.ownsRow w8.heap.size 25 4 v9 (j + 1) (fl ((List.range (j + 1)).map fun i => tu (xs.getD i ⟨0, 0, 0, 0⟩)))) := by
            have hk10 : Kept (fun b => u14.ownBlock = some b) w9 w10 := ((Kept.refl _ w9).alloc _).grown grow10 (fun b e => .inl e)
            have hne : ¬ u14.ownBlock = some g := fun e => by have := (HO9.out.lt g e).1; have := HG8.out; omega
            refine ⟨HK9.out.trans hk10 (fun b e => .inr (HO9.out.lt b e).1), HT.out.kept hk10 hne, HFT.out.kept hk10 hne (Nat.lt_of_lt_of_le HG8.out HK9.out.size), ?_⟩
            rw [HYN.out, fl_app]
            exact own10
          clear own10 grow10 at10 d0 d1 d2 d3
          go_wp2
          go_roundw
          case rel => exact ⟨j + 1, by omega, by go_num, HN.out.1, HN.out.2.1, HN.out.2.2.1, HN.out.2.2.2⟩
          case measure => simp [intOf]; omega
        · have hje : j = k := by omega
          subst hje
          obtain ⟨ts, hts⟩ : ∃ ts, ts = (List.range j).map (fun i => tu (xs.getD i ⟨0, 0, 0, 0⟩)) := ⟨_, rfl⟩
          have hok : ∀ i, i < j → (tu (xs.getD i ⟨0, 0, 0, 0⟩)).ok := fun i hi => tu_ok (H.out.ok i hi)
          have hS : Sv wr (fun b => b = g) (some ⟨g, 0, none⟩) j cap ts := by
            have h1 := HMR.out.sv j cap (Nat.le_refl _) (by omega) hcm (fun i hi => by simp only [hi, if_true]; exact hok i hi)
            have h2 : (List.range j).map (fun i => if i < j then tu (xs.getD i ⟨0, 0, 0, 0⟩) else xs.getD i ⟨0, 0, 0, 0⟩) = ts := by
              rw [hts]
              apply List.map_congr_left
              intro i hi
              rw [if_pos (List.mem_range.1 hi)]
            rw [h2] at h1
            exact h1
          rw [← hts] at hown
          obtain ⟨oa, oc, rfl, hS2⟩ := own_sv hown (by rw [hts]; simp) (fun i hi => by
            have : ts.getD i ⟨0, 0, 0, 0⟩ = tu (xs.getD i ⟨0, 0, 0, 0⟩) := by
              rw [hts]; simp only [List.getD_eq_getElem?_getD]; rw [List.getElem?_map, List.getElem?_range hi]; rfl
            rw [this]; exact hok i hi)
          have HKW : Hid (Kept No w wr) := (HK3.out.trans K8.out (fun _ h => h.elim)).trans hkr (fun b h => .inr (by rw [h]; exact HGW.out))
          have hgr : Gl wr := HG.out.kept HKW.out
          have C5 : Hid (∀ w', Kept No wr w' → Calls Tryd.prog 5 #[.slice (some ⟨g, 0, none⟩) j cap] w' fun e w'' => e = .returned (.tuple #[.int .i64 (fe (findF ts j)), .int .i64 (fn (findF ts j))]) ∧ Kept No wr w'') := fun w' hw => (servers_any _ _ j cap ts w' (hgr.kept hw) (hS.keep hw)).mono (fun e w'' he => ⟨he.1, hw.trans he.2 (fun _ h => h.elim)⟩)
          have C6 : Hid (∀ w', Kept No wr w' → Calls Tryd.prog 6 #[.slice oa j oc] w' fun e w'' => e = .returned (.tuple #[.int .i64 (fe (findF ts j)), .int .i64 (fn (findF ts j))]) ∧ Kept No wr w'') := fun w' hw => (rservers_any _ _ j oc ts w' (hS2.keep hw)).mono (fun e w'' he => ⟨he.1, hw.trans he.2 (fun _ h => h.elim)⟩)
          have C7 : Hid (∀ w', Kept No wr w' → Calls Tryd.prog 7 #[.slice (some ⟨g, 0, none⟩) j cap] w' fun e w'' => e = .returned (.tuple #[.int .i64 (hyV ts j), .int .i64 (hyE ts j)]) ∧ Kept No wr w'') := fun w' hw => (hyper_any _ _ j cap ts w' (hgr.kept hw) (hS.keep hw)).mono (fun e w'' he => ⟨he.1, hw.trans he.2 (fun _ h => h.elim)⟩)
          have C8 : Hid (∀ w', Kept No wr w' → Calls Tryd.prog 8 #[.slice oa j oc] w' fun e w'' => e = .returned (.tuple #[.int .i64 (hyV ts j), .int .i64 (hyE ts j)]) ∧ Kept No wr w'') := fun w' hw => (rHyper_any _ _ j oc ts w' (hS2.keep hw)).mono (fun e w'' he => ⟨he.1, hw.trans he.2 (fun _ h => h.elim)⟩)
          clear hown hmf hfz hkr hok hS hS2 hgr HMR HFR HKR HOW hts
          generalize fe (findF ts j) = t1 at *
          generalize fn (findF ts j) = t2 at *
          generalize hyV ts j = t3 at *
          generalize hyE ts j = t4 at *
          go_wp2_with (first
            | (go_at_call 5; refine (C5.out _ (Kept.refl No _)).mono ?_; rintro e w4 ⟨rfl, k4⟩; have K4 : Hid (Kept No wr w4) := k4; clear k4)
            | (go_at_call 6; refine (C6.out _ K4.out).mono ?_; rintro e w5 ⟨rfl, k5⟩; have K5 : Hid (Kept No wr w5) := k5; clear k5)
            | (go_at_call 7; refine (C7.out _ K5.out).mono ?_; rintro e w6 ⟨rfl, k6⟩; have K6 : Hid (Kept No wr w6) := k6; clear k6)
            | (go_at_call 8; refine (C8.out _ K6.out).mono ?_; rintro e w7 ⟨rfl, k7⟩; have K7 : Hid (Kept No wr w7) := k7; clear k7))
          go_ret
          exact ⟨rfl, (HKW.out.trans K7.out (fun _ h => h.elim)).below0⟩
end Go.Proofs.YtgjgaljdjkliaaaDoor
