/-
  sound: true of every table that the calls make.
-/
import Derived.Test.YtofkacfchkimiaaPMay
import Derived.Test.YtofkacfchkimiaaPLeanA
import Derived.BigQuiet
import Derived.Deep.DeepCutAuto
namespace Go.Proofs.Ytofkacfchkimiaa
open Go.RowKit
set_option linter.unusedVariables false
set_option linter.unusedSimpArgs false
set_option maxRecDepth 100000

theorem er_cl {w : World} {a : Act} {o : Oper} (x : Operand) (t : TypeId) (ho : o.op = .call { callee := .value (.func 63), args := #[x], argTypes := #[t] }) (v : Value) (hx : a.eval x = v) : (execOp a.eval o).run Try.prog w = .ok (.enter 63 #[v]) w := by
  subst hx
  simp [execOp, ho, go_sem, Act.eval]
section
variable {b g cap : Nat} {T : Tt} {q M : Nat}
theorem may_any {w1 W : World} {gl vc : Nat} {ds : Nat → Value} (h : StL w1 W T T.n (.slice (some ⟨gl, 0, none⟩) T.n vc) ds) (hn : T.n ≤ 1048576) (S : Sd T q M) {run : Int} (R : Runs T run true) : Calls Try.prog 64 #[.slice (some ⟨gl, 0, none⟩) T.n vc, .int .i64 T.lk, .int .i64 T.hd, .int .i64 run] W fun e w' => e = .returned (.bool true) ∧ Kept No W w' := by
  obtain ⟨r, hr, rfl, hs, h1⟩ := R.who rfl
  have nh : (¬ ∃ i, i < T.n ∧ T.hd = (i : Int) + 1 ∧ (T.ps i).st = 1) → Nh T T.n T.hd := fun e => by
    have hd := S.hd
    by_cases h0 : T.hd = 0
    · exact .inl h0
    · exact .inr ⟨(T.hd - 1).toNat, by omega, by omega, fun e' => e ⟨(T.hd - 1).toNat, by omega, by omega, e'⟩⟩
  rcases h1 with e | ⟨e1, e2⟩ | ⟨e1, e2, e3⟩
  · rw [e]; exact may_hand h hn T.lk hr hs
  · rw [e2]; exact may_lock h hn (nh e1) hr hs
  · rw [e2]; exact may_line h hn (nh e1) hr hs e3

set_option maxHeartbeats 16000000 in
theorem sound_any {A : Array Value} {pa : Option Addr} {pc : Nat} (h8 : A[8]? = some (.slice pa T.n pc)) (h9 : A[9]? = some (.int .i64 T.hd)) (w : World) (h : Tw w b g cap T) (hn : T.n ≤ 1048576) (S : Sd T q M) (hM : M ≤ 1048576) :
    Calls Try.prog 32 #[.pointer (some ⟨b, 0, none⟩), .agg A] w fun e w' => e = .returned (.bool true) ∧ Kept No w w' := by
  obtain ⟨w0, e0⟩ : ∃ w0, w0 = w.alloc (.cells A 38) := ⟨_, rfl⟩
  have K0 : Hid (Kept No w w0) := by rw [e0]; exact (Kept.refl No w).alloc _
  have B0 : Hid (w0.heap[w.heap.size]? = some (.cells A 38)) := by rw [e0]; exact alloc_new w _
  have P0 := hid (And.intro h8 h9)
  have h0 := h.keep K0.out
  have st := states_any w0 h0 hn (fun i hi => by have := (S.each i hi).ws; omega)
  have HT := hid h0
  have SS := hid S
  have h1 := h.one
  clear h h0 h8 h9 S
  go_enter Try.func32, Try.ntmps32
  go_upto_region 1 with fail
  rw [← e0]
  clear e0
  go_upto_region 3 with (first
    | (go_at_call 30; refine st.mono ?_; rintro e w2 ⟨va, vc, ds, rfl, sl⟩; have SL := hid sl; have pk := pick_any w2 (HT.out.keep sl.2.1) hn SS.out; clear sl st)
    | (go_at_call 22; refine pk.mono ?_; rintro e w3 ⟨run, ok, rfl, R, k3⟩; have S3 := hid (SL.out.keep k3); have RR := hid R; clear k3 pk R))
  have K3 := hid (K0.out.trans S3.out.2.1 (fun _ e => .inl e))
  have B3 := S3.out.2.1.at' B0.out (fun e => e)
  have p8 : w3.cell? ⟨w.heap.size, 8, none⟩ = some (.slice pa T.n pc) := cell_row B3 P0.out.1
  have p9 : w3.cell? ⟨w.heap.size, 9, none⟩ = some (.int .i64 T.hd) := cell_row B3 P0.out.2
  have BB := hid B3
  obtain ⟨gl, rfl, _, _⟩ := S3.out.row h1
  obtain ⟨hc1, hc2⟩ := S3.out.cap
  clear B3 SL K0 B0 HT
  go_cut [59] (fun x wd => x = .bool false ∧ wd = w3)
  case first =>
    rcases SS.out.lock with e | ⟨i, hi, e1, e2, e3⟩
    · generalize T.lk = lk at *
      subst e
      go_wp2
      go_meet
      exact ⟨rfl, rfl⟩
    · obtain ⟨c0, _, _⟩ := S3.out.c hi
      rw [e2] at c0
      have g1 : ¬ (i : Int) + 1 < 0 := by omega
      have g2 : ¬ (T.n : Int) < (i : Int) + 1 := by omega
      have g3 : 0 < (i : Int) + 1 := by omega
      have g4 : ((i : Int) + 1 == T.hd) = false := by simp; omega
      have hiz : (i : Int) < (T.n : Int) := by omega
      clear e2 e3
      generalize T.lk = lk at *
      subst e1
      go_wp2
      go_meet
      exact ⟨rfl, rfl⟩
  case rest =>
  obtain ⟨rfl, hw⟩ := hcut
  obtain rfl := hw.symm
  clear hw p8 p9
  go_wp2
  go_loopw [10, 11] (fun sm i wr => ∃ k : Nat, k ≤ T.n ∧ i = .int .i64 k ∧ sm = .bool (T.some k) ∧ Kept No w3 wr) (fun _ i _ => T.n - (intOf i).toNat)
  case atStart => exact ⟨0, Nat.zero_le _, rfl, rfl, Kept.refl _ _⟩
  case round =>
    obtain ⟨k, hk, rfl, rfl, kr⟩ := hrel
    by_cases hlt : k < T.n
    · have hltz : (k : Int) < (T.n : Int) := by omega
      have hst := S3.out.keep kr
      obtain ⟨g', e, _, ry⟩ := hst.row hlt
      injection e with e
      injection e with e _ _
      subst e
      obtain ⟨xa, xc, ex, _⟩ := hst.2.2.1 k hlt
      rw [ex] at ry
      obtain ⟨Y, hY⟩ : ∃ Y, Y = (T.ps k).val (.slice xa (T.ps k).ws.length xc) := ⟨_, rfl⟩
      have LY := hid (ldSt ry rfl)
      have LYc := hid (fun W (hW : W.heap[wr.heap.size]? = some (.cells ((T.ps k).val (.slice xa (T.ps k).ws.length xc)) 48)) => ldSt (w := W) (b := wr.heap.size) (o := 0) (A := (T.ps k).val (.slice xa (T.ps k).ws.length xc)) (fun j v hv => by rw [Nat.zero_add]; exact cell_row hW (by simpa using hv)) rfl)
      rw [← hY] at LY
      have LYb : Hid (∀ W : World, W.heap[wr.heap.size]? = some (.cells ((T.ps k).val (.slice xa (T.ps k).ws.length xc)) 48) → (Instr.loadAt 48 (.pointer (some ⟨wr.heap.size, 0, none⟩))).run Try.prog W = .ok (.agg Y) W) := fun W hW => by rw [hY]; exact LYc.out W hW
      have OY : Hid (Y.size = 28 ∧ Y.all (·.oneCell') = true) := by rw [hY]; exact ⟨rfl, val_one _⟩
      have by' := hid (alloc_new wr (.cells Z28 48))
      have k2 := put28_kept wr Y
      have HY : Hid ((put28 wr Y).heap[wr.heap.size]? = some (.cells Y 48)) := put28_at wr Y
      have HYY : Hid ((put28 wr Y).heap[wr.heap.size]? = some (.cells ((T.ps k).val (.slice xa (T.ps k).ws.length xc)) 48)) := by rw [← hY]; exact put28_at wr Y
      have KK := hid (kr.trans k2 (fun _ e => .inl e))
      have ln := lean_any
      have LN := hid (fun W => lean_any W (SS.out.each k hlt) xa xc)
      rw [← hY] at LN
      have YC : Hid (Y[0]? = some (.int .i64 (T.ps k).st) ∧ Y[1]? = some (.int .i64 (T.ps k).pri) ∧ Y[2]? = some (.int .i64 (T.ps k).pl)) := by rw [hY]; exact ⟨rfl, rfl, rfl⟩
      clear kr hst ry ex hY k2 ln LYc
      go_upto_region 10 with (first
        | (refine l_take 69 rfl rfl (er_ld 48 (.tmp 68) rfl _ (.agg Y) rfl LY.out) ?_)
        | (refine list_make rfl 12 rfl (er_alS rfl) ?_)
        | (refine wpList_store_row rfl 48 (.tmp 12) (.tmp 69) rfl wr.heap.size Y rfl rfl _ Z28 by'.out (by rw [OY.out.1]; exact Try.info48) OY.out.1.symm OY.out.2 ?_; rw [show (wr.alloc (.cells Z28 48)).setRow wr.heap.size Y = put28 wr Y from rfl]))
      clear LY OY by'
      generalize put28 wr Y = w6 at *
      generalize wr.heap.size = yb at *
      have y0 : w6.cell? ⟨yb, 0, none⟩ = some (.int .i64 (T.ps k).st) := cell_row HY.out YC.out.1
      try simp only [Act.put, List.setIfInBounds_toArray, List.set_cons_zero, List.set_cons_succ]
      go_cut [10] (fun x wd => x = .bool (T.some (k + 1)) ∧ wd = w6)
      case first =>
        have ES : Hid (T.some (k + 1) = (T.some k || decide ((T.ps k).st = 1))) := rfl
        generalize (T.ps k).st = s at *
        generalize T.some k = sm at *
        cases sm
        · by_cases e1 : s = 1
          · subst e1
            go_wp2
            go_meet
            exact ⟨by rw [ES.out]; rfl, rfl⟩
          · have e1' : (s == 1) = false := by simp [e1]
            have E1 := hid (decide_eq_false e1)
            clear e1
            go_wp2
            go_meet
            exact ⟨by rw [ES.out, E1.out]; rfl, rfl⟩
        · go_wp2
          go_meet
          exact ⟨by rw [ES.out, Bool.true_or], rfl⟩
      case rest =>
      obtain ⟨rfl, hw⟩ := hcut
      obtain rfl := hw.symm
      clear hw
      go_upto_region 11 with fail
      go_cut [114] (fun x wd => x = .bool false ∧ Kept No w6 wd)
      case first =>
        have l0 := LN.out w6
        have LD := hid (LYb.out w6 HYY.out)
        have L := SS.out.each k hlt
        have y1 : w6.cell? ⟨yb, 1, none⟩ = some (.int .i64 (T.ps k).pri) := cell_row HY.out YC.out.2.1
        have y2 : w6.cell? ⟨yb, 2, none⟩ = some (.int .i64 (T.ps k).pl) := cell_row HY.out YC.out.2.2
        obtain ⟨s1, s2⟩ := L.st
        have m1 : ¬ (T.ps k).st < 0 := by omega
        have m2 : ¬ 10 < (T.ps k).st := by omega
        have AW := hid L.awake
        clear s1 s2 L LYb LN YC
        generalize (T.ps k).st = s at *
        generalize (T.ps k).pri = pri at *
        generalize (T.ps k).pl = plc at *
        by_cases e0 : s = 0
        · subst e0
          clear m1 m2 AW
          refine wp_region_lit ?_
          refine l_take 76 rfl rfl (er_ld 48 (.tmp 12) rfl (.pointer (some ⟨yb, 0, none⟩)) (.agg Y) rfl LD.out) ?_
          simp only [Act.put, List.setIfInBounds_toArray, List.set_cons_zero, List.set_cons_succ]
          refine l_call 77 rfl rfl (er_cl (.tmp 76) 48 rfl (.agg Y) rfl) l0 ?_
          rintro e w7 ⟨rfl, k7⟩
          refine ⟨_, rfl, ?_⟩
          simp only [Act.put, List.setIfInBounds_toArray, List.set_cons_zero, List.set_cons_succ]
          have z0 := k7.cell y0 (fun e => e)
          have z1 := k7.cell y1 (fun e => e)
          have z2 := k7.cell y2 (fun e => e)
          have K7 := hid k7
          clear k7 l0 y0 y1 y2 LD
          go_wp2
          go_meet
          exact ⟨rfl, K7.out⟩
        · obtain ⟨a1, a2, a3, a4⟩ := AW.out e0
          have e0' : (s == 0) = false := by simp [e0]
          have e0'' : (s != 0) = true := by simp [e0]
          have b1 : ¬ plc < 1 := by omega
          have b2 : ¬ T.pl ≤ plc := by omega
          have b3 : ¬ pri < 0 := by omega
          have b4 : ¬ 255 < pri := by omega
          clear AW a1 a2 a3 a4 e0
          refine wp_region_lit ?_
          refine l_take 76 rfl rfl (er_ld 48 (.tmp 12) rfl (.pointer (some ⟨yb, 0, none⟩)) (.agg Y) rfl LD.out) ?_
          simp only [Act.put, List.setIfInBounds_toArray, List.set_cons_zero, List.set_cons_succ]
          refine l_call 77 rfl rfl (er_cl (.tmp 76) 48 rfl (.agg Y) rfl) l0 ?_
          rintro e w7 ⟨rfl, k7⟩
          refine ⟨_, rfl, ?_⟩
          simp only [Act.put, List.setIfInBounds_toArray, List.set_cons_zero, List.set_cons_succ]
          have z0 := k7.cell y0 (fun e => e)
          have z1 := k7.cell y1 (fun e => e)
          have z2 := k7.cell y2 (fun e => e)
          have K7 := hid k7
          clear k7 l0 y0 y1 y2 LD
          go_wp2
          all_goals (
            go_meet
            exact ⟨rfl, K7.out⟩)
      case rest =>
      obtain ⟨rfl, k7⟩ := hcut
      have K7 := hid (KK.out.trans k7 (fun _ e => .inl e))
      have HY7 := hid (k7.at' HY.out (fun e => e))
      clear k7 y0 KK HY LYb LN
      go_wp2
      go_loopw [13] (fun i wr => ∃ m : Nat, m ≤ k ∧ i = .int .i64 m ∧ Kept No wc wr) (fun i _ => k - (intOf i).toNat)
      case atStart => exact ⟨0, Nat.zero_le _, rfl, Kept.refl _ _⟩
      case round =>
        obtain ⟨m, hm, rfl, km⟩ := hrel
        have k8 : Kept No w3 wr := K7.out.trans km (fun _ e => .inl e)
        have HYm := km.at' HY7.out (fun e => e)
        by_cases hmk : m < k
        · have hmz : (m : Int) < (k : Int) := by omega
          have hmn : m < T.n := by omega
          have hmnz : (m : Int) < (T.n : Int) := by omega
          obtain ⟨c0, _, c2⟩ := (S3.out.keep k8).c hmn
          have y0 : wr.cell? ⟨yb, 0, none⟩ = some (.int .i64 (T.ps k).st) := cell_row HYm YC.out.1
          have y2 : wr.cell? ⟨yb, 2, none⟩ = some (.int .i64 (T.ps k).pl) := cell_row HYm YC.out.2.2
          have AP := hid (SS.out.apart k m hlt hmn (by omega))
          have KM := hid km
          clear k8 HYm km
          go_upto_region 16 with fail
          go_cut [140] (fun x wd => x = .bool false ∧ Kept No wr wd)
          case first =>
            generalize (T.ps k).st = s1 at *
            generalize (T.ps k).pl = p1 at *
            generalize (T.ps m).st = s2 at *
            generalize (T.ps m).pl = p2 at *
            by_cases e1 : s1 = 0
            · subst e1
              go_wp2_with fail
              go_quiet (fail)
              go_wp2
              go_meet
              exact ⟨rfl, (Kept.refl No wr).drewN _⟩
            · have e1' : (s1 != 0) = true := by simp [e1]
              by_cases e2 : s2 = 0
              · subst e2
                clear e1
                go_wp2_with fail
                go_quiet (fail)
                go_wp2
                go_meet
                exact ⟨rfl, (Kept.refl No wr).drewN _⟩
              · have e2' : (s2 != 0) = true := by simp [e2]
                have e3 : (p1 == p2) = false := by simp [AP.out e1 e2]
                clear e1 e2 AP
                go_wp2_with fail
                go_quiet (fail)
                go_wp2
                go_meet
                exact ⟨rfl, (Kept.refl No wr).drewN _⟩
          case rest =>
          obtain ⟨rfl, k9⟩ := hcut
          have K9 := hid (KM.out.trans k9 (fun _ e => .inl e))
          clear k9
          go_wp2
          refine ⟨⟨m + 1, by omega, by go_num, K9.out⟩, ?_⟩
          simp [intOf]; omega
        · have hmz : ¬ (m : Int) < (k : Int) := by omega
          have K8 := hid k8
          clear k8 HYm km
          go_wp2
          refine ⟨⟨k + 1, by omega, by go_num, rfl, K8.out⟩, ?_⟩
          simp [intOf]; omega
    · have hltz : ¬ (k : Int) < (T.n : Int) := by omega
      have ek : k = T.n := by omega
      have k8 := kr
      have R := RR.out
      have es : T.some k = ok := by rw [ek]; exact R.some
      rw [es]
      have B8 := k8.at' BB.out (fun e => e)
      have p9 : wr.cell? ⟨w.heap.size, 9, none⟩ = some (.int .i64 T.hd) := cell_row B8 P0.out.2
      have K8 := hid k8
      cases ok
      · clear kr k8 R es B8
        go_wp2
        go_ret
        exact ⟨rfl, K3.out.trans K8.out (fun _ e => .inl e)⟩
      · have mm := may_any (S3.out.keep k8) hn SS.out R
        clear kr k8 R es B8
        go_wp2_with (go_at_call 64; refine mm.mono ?_; rintro e w9 ⟨rfl, k9⟩; have K9 := hid k9; clear k9 mm)
        go_ret
        exact ⟨rfl, (K3.out.trans K8.out (fun _ e => .inl e)).trans K9.out (fun _ e => .inl e)⟩
end
end Go.Proofs.Ytofkacfchkimiaa
