/-
  One text: CStep4, CPsv, CChk, OVal, OLineUp.
-/
import Derived.Test.YtnmhcnppdhdhfaaGreatDoorG25
import Derived.Test.YtnmhcnppdhdhfaaGreatDoorG21
import Derived.Test.YtnmhcnppdhdhfaaGreatDoorG13
import Derived.Test.YtnmhcnppdhdhfaaGreatDoorG24
import Derived.Test.YtnmhcnppdhdhfaaGreatDoorG23
import Derived.Test.YtnmhcnppdhdhfaaGreatDoorG09
import Derived.Test.YtnmhcnppdhdhfaaGreatDoorG10
namespace Go.Proofs.YtnmhcnppdhdhfaaGreatDoor
open Go.RowKit
set_option linter.unusedVariables false
set_option linter.unusedSimpArgs false
set_option maxRecDepth 100000

set_option maxHeartbeats 4000000 in
theorem step4 (F : Nat → Prop) (a0 : Option Addr) (n0 c0 : Nat) (v1 v2 : Value) (xs : List Pn) (w : World) (hg : Gl w) (hL : Ls 21 elPn w F a0 n0 c0 xs) :
    Calls Tryz.prog 71 #[.agg #[.slice a0 n0 c0, v1, v2]] w fun e w' => e = .returned (fv (eachF (fun i => rowsF (ePt (xs.getD i dPn)) 9) 1 n0)) ∧ Kept No w w' := by
  have HK : Hid (Kept No w (w.alloc (.cells #[.slice a0 n0 c0, v1, v2] 26))) := (Kept.refl No w).alloc _
  have HC : Hid (∀ w' tb, Kept No w w' → Tb w' tb 9 rsPt → Calls Tryz.prog 67 #[.slice a0 n0 c0, .int .i64 1, .slice (some ⟨tb, 0, none⟩) 9 9] w' fun e w'' => e = .returned (fv (eachF (fun i => rowsF (ePt (xs.getD i dPn)) 9) 1 n0)) ∧ Kept No w' w'') := fun w' tb hw hT => each_Pt F a0 n0 c0 xs tb w' (hg.kept hw) (lsPn_keep hL hw) hT
  have HM : Hid (∀ w', Kept No (w.alloc (.cells #[.slice a0 n0 c0, v1, v2] 26)) w' → w'.cell? ⟨w.heap.size, 0, none⟩ = some (.slice a0 n0 c0)) := fun w' k => k.cell (by simp) (fun h => h)
  clear hL hg
  generalize eachF (fun i => rowsF (ePt (xs.getD i dPn)) 9) 1 n0 = z at *
  go_enter Tryz.func71, Tryz.ntmps71
  go_upto_region 1 with fail
  generalize w.alloc (.cells #[.slice a0 n0 c0, v1, v2] 26) = w0 at *
  have m0 := HM.out w0 (Kept.refl No w0)
  go_region_with (first
    | (go_at_call 72; refine (tablePt _).mono ?_; rintro e w1 ⟨tb, rfl, hT, hk1⟩; have HT : Hid (Tb w1 tb 9 rsPt) := hT; have HK1 : Hid (Kept No w0 w1) := (Kept.refl No w0).drew.trans hk1 (fun _ h => h.elim); have p0 := HM.out w1 HK1.out; clear hT hk1)
    | (go_at_call 67; refine (HC.out _ _ (HK.out.trans HK1.out (fun _ h => h.elim)) HT.out).mono ?_; rintro e w2 ⟨rfl, hk2⟩; have HK2 : Hid (Kept No w0 w2) := HK1.out.trans hk2 (fun _ h => h.elim); clear hk2))
  all_goals (try go_wp2)
  all_goals (go_ret; exact ⟨rfl, HK.out.trans HK2.out (fun _ h => h.elim)⟩)

end Go.Proofs.YtnmhcnppdhdhfaaGreatDoor

namespace Go.Proofs.YtnmhcnppdhdhfaaGreatDoor
open Go.RowKit Plain
set_option linter.unusedVariables false
set_option linter.unusedSimpArgs false
set_option maxRecDepth 100000

def pnSv (x : Pn) : Srv := ⟨x.pe, x.bu, x.off, x.pr⟩
def svs (xs : List Pn) : List Srv := xs.map pnSv
theorem svs_len (xs : List Pn) : (svs xs).length = xs.length := by rw [svs, List.length_map]


set_option maxHeartbeats 8000000 in
theorem psrv_any (F : Nat → Prop) (a : Option Addr) (n c : Nat) (xs : List Pn) (w : World) (h : Ls 21 elPn w F a n c xs) (hn : n ≤ 70000) :
    Calls Tryz.prog 70 #[.slice a n c] w fun e w' => ∃ v, e = .returned v ∧ w'.ownsRow w.heap.size 39 4 v n (fl (svs xs)) ∧ Kept No w w' := by
  obtain ⟨i0, hi, hz0, hz1, hz2⟩ := info_parts Tryz.infoS
  have H : Hid (Ls 21 elPn w F a n c xs) := h
  clear h
  go_enter Tryz.func70, Tryz.ntmps70
  go_wp2
  go_loopw [3, 8] (fun v x wr => ∃ k : Nat, k ≤ n ∧ x = .int .i64 k ∧ Kept No w wr ∧ wr.ownsRow w.heap.size 39 4 v k (fl ((svs xs).take k))) (fun _ x _ => n - (intOf x).toNat)
  case atStart => exact ⟨0, by omega, rfl, Kept.refl No w, ⟨rfl, .inl ⟨rfl, rfl⟩⟩⟩
  case round =>
    obtain ⟨k, hk, rfl, hkr, hown⟩ := hrel
    by_cases hlt : k < n
    · have hx : xs[k]? = some (xs.getD k dPn) := by rw [List.getD, List.getElem?_eq_getElem (by rw [H.out.len]; exact hlt)]; rfl
      obtain ⟨b, o, cs, rfl, hb, hl, hr, hE⟩ := H.out.at' k _ hx
      have HNX : Hid (fl ((svs xs).take (k + 1)) = fl ((svs xs).take k) ++ fl [pnSv (xs.getD k dPn)]) := by
        show fl ((svs xs).take (k + 1)) = _
        rw [← fl_app, List.take_add_one, svs, List.getElem?_map, hx]
        rfl
      have HL : Hid ((fl ((svs xs).take k)).length = k * 4) := by show (fl ((svs xs).take k)).length = k * 4; rw [fl_len, List.length_take, svs, List.length_map, H.out.len]; congr 1; omega
      generalize fl ((svs xs).take k) = L0 at *
      generalize xs.getD k dPn = y at *
      obtain ⟨ya, yb, yc, yd, cs0, he⟩ : ∃ ya yb yc yd cs0, cs = .int .i64 ya :: .int .i64 yb :: .int .i64 yc :: .int .i64 yd :: cs0 := by
        obtain ⟨a0, n0, c0, a1, n1, c1, a2, n2, c2, a3, n3, c3, a4, n4, c4, a5, n5, c5, e, _⟩ := hE.sl
        exact ⟨_, _, _, _, _, e⟩
      have hy : pnSv y = ⟨ya, yb, yc, yd⟩ := by
        obtain ⟨a0, n0, c0, a1, n1, c1, a2, n2, c2, a3, n3, c3, a4, n4, c4, a5, n5, c5, e, _⟩ := hE.sl
        rw [he] at e
        simp only [List.cons.injEq, Value.int.injEq, true_and] at e
        obtain ⟨e1, e2, e3, e4, _⟩ := e
        rw [pnSv, e1, e2, e3, e4]
      rw [hy] at HNX
      have h1 : ∀ v ∈ cs, v.oneCell' = true := by
        obtain ⟨a0, n0, c0, a1, n1, c1, a2, n2, c2, a3, n3, c3, a4, n4, c4, a5, n5, c5, e, _⟩ := hE.sl
        rw [e]
        simp [Value.oneCell']
      generalize wr = wo at *
      obtain ⟨w1, hst, hrg, hk1⟩ := box_PnE wo cs hl h1
      have HLD : Hid ((Instr.loadAt 48 (.pointer (some ⟨b, o + k * 21, none⟩))).run Tryz.prog wo = .ok (.agg cs.toArray) wo) := run_loadAt_mid wo b (o + k * 21) _ cs _ (rangeAt_kept hr hkr (fun h => h)) Tryz.underlying48 rfl (by rw [hl]; exact sizeEPn)
      have HST : Hid ((Instr.storeAt 48 (.pointer (some ⟨wo.heap.size, 0, none⟩)) (.agg cs.toArray)).run Tryz.prog (wo.alloc (.cells #[.int .i64 0, .int .i64 0, .int .i64 0, .int .i64 0, .int .i64 0, .int .i64 0, .slice none 0 0, .slice none 0 0, .slice none 0 0, .int .i64 0, .int .i64 0, .int .i64 0, .int .i64 0, .int .i64 0, .int .i64 0, .int .i64 0, .int .i64 0, .int .i64 0, .slice none 0 0, .slice none 0 0, .slice none 0 0] 48)) = .ok () w1) := hst
      have HW : Hid (Kept No w w1) := hkr.trans hk1 (fun _ h => h.elim)
      have HOW : Hid (w1.ownsRow w.heap.size 39 4 u3 k L0) := hk1.owns hown (fun _ _ h => h)
      have hcap : k ≤ c := by have := H.out.cap; omega
      have hn' : n ≤ 9223372036854775807 := by omega
      rw [he] at hrg
      have d0 := hrg 0 _ rfl
      have d1 := hrg 1 _ rfl
      have d2 := hrg 2 _ rfl
      have d3 := hrg 3 _ rfl
      rw [Nat.add_zero] at d0
      simp only [Nat.zero_add] at d1 d2 d3
      clear hkr hr hl h1 hst hrg hk1 hE hx hown hb he hy
      generalize Value.agg cs.toArray = av at *
      go_upto_region 4 with fail
      refine wp_region_lit ?_
      refine l_take 10 rfl rfl (er_idxPn _ _ rfl b o n c k hlt hn' rfl rfl) ?_
      simp only [Act.put, List.setIfInBounds_toArray, List.set_cons_zero, List.set_cons_succ]
      refine l_take 11 rfl rfl (er_ld _ _ rfl _ _ rfl HLD.out) ?_
      simp only [Act.put, List.setIfInBounds_toArray, List.set_cons_zero, List.set_cons_succ]
      refine l_make 5 rfl rfl (er_alPn rfl) ?_
      simp only [Act.put, List.setIfInBounds_toArray, List.set_cons_zero, List.set_cons_succ]
      refine l_turn rfl rfl (er_st _ _ _ rfl _ _ rfl rfl HST.out) ?_
      clear HST HLD
      go_wp2_with (at_builtin; refine wpList_append_own_at _ rfl _ _ 36 rfl w.heap.size 39 i0 (.agg #[.int .i64 0, .int .i64 0, .int .i64 0, .int .i64 0]) 4 32 Tryz.underlying36 hi hz0 hz1 hz2 rfl (by decide) _ _ _ rfl (HOW.out.alloc _) ⟨w1.heap.size, 0, none⟩ 1 1 (fl [⟨ya, yb, yc, yd⟩]) rfl rfl (cell_four w1 ⟨ya, yb, yc, yd⟩ _) (fl_one _) (by unfold maxLen; omega) (by omega) (by have := HW.out.size; simp; omega) ?_; intro v1 w6 own1 grow1 _ at1)
      have HK6 : Hid (Kept No w w6 ∧ w6.ownsRow w.heap.size 39 4 v1 (k + 1) (fl ((svs xs).take (k + 1)))) := by
        exact ⟨(HW.out.alloc _).grown grow1 (fun g e => .inr (HOW.out.lt g e).1), by rw [HNX.out]; exact own1⟩
      clear own1 grow1 at1
      go_wp2
      go_roundw
      case rel => exact ⟨k + 1, by omega, by go_num, HK6.out.1, HK6.out.2⟩
      case measure => simp [intOf]; omega
    · have hke : k = n := by omega
      subst hke
      have HO : Hid (wr.ownsRow w.heap.size 39 4 u3 k (fl (svs xs))) := by
        rw [List.take_of_length_le (by rw [svs, List.length_map, H.out.len]; exact Nat.le_refl _)] at hown
        exact hown
      have HKR : Hid (Kept No w wr) := hkr
      clear hown hkr
      go_wp2
      go_ret
      exact ⟨_, rfl, HO.out, HKR.out⟩
end Go.Proofs.YtnmhcnppdhdhfaaGreatDoor

namespace Go.Proofs.YtnmhcnppdhdhfaaGreatDoor
open Go.RowKit Plain
set_option linter.unusedVariables false
set_option linter.unusedSimpArgs false
set_option maxRecDepth 100000

theorem svs_ok {F : Nat → Prop} {a : Option Addr} {n c : Nat} {xs : List Pn} {w : World} (h : Ls 21 elPn w F a n c xs) (i : Nat) (hi : i < n) : ((svs xs).getD i ⟨0, 0, 0, 0⟩).ok := by
  have hil : i < xs.length := by rw [h.len]; exact hi
  have hx : xs[i]? = some xs[i] := List.getElem?_eq_getElem hil
  obtain ⟨b, o, cs, e, hb, hl, hr, hE⟩ := h.at' i _ hx
  have : (svs xs).getD i ⟨0, 0, 0, 0⟩ = pnSv xs[i] := by rw [List.getD, svs, List.getElem?_map, hx]; rfl
  rw [this]
  exact ⟨hE.ok.1, hE.ok.2.1, hE.ok.2.2.1, hE.ok.2.2.2.1⟩

set_option maxHeartbeats 4000000 in
theorem step3 (F : Nat → Prop) (a0 : Option Addr) (n0 c0 : Nat) (v1 v2 : Value) (xs : List Pn) (w : World) (hn : n0 ≤ 70000) (hL : Ls 21 elPn w F a0 n0 c0 xs) :
    Calls Tryz.prog 69 #[.agg #[.slice a0 n0 c0, v1, v2]] w fun e w' => e = .returned (fv (timF (svs xs) n0)) ∧ Kept No w w' := by
  have HK : Hid (Kept No w (w.alloc (.cells #[.slice a0 n0 c0, v1, v2] 26))) := (Kept.refl No w).alloc _
  have hc := psrv_any F a0 n0 c0 xs (w.alloc (.cells #[.slice a0 n0 c0, v1, v2] 26)) (lsPn_keep hL HK.out) hn
  have HO : Hid (∀ (v : Value) (w' : World) (B : Nat), w'.ownsRow B 39 4 v n0 (fl (svs xs)) → ∃ a c, v = .slice a n0 c ∧ ∀ w'', Kept No w' w'' → Calls Tryz.prog 34 #[.slice a n0 c] w'' fun e w3 => e = .returned (fv (timF (svs xs) n0)) ∧ Kept No w'' w3) := by
    intro v w' B ho
    obtain ⟨a, c, e, hs⟩ := own_sv ho (by rw [svs_len, hL.len]) (fun i hi => svs_ok hL i hi)
    exact ⟨a, c, e, fun w'' k => findTiming_any _ a n0 c (svs xs) w'' (hs.keep k)⟩
  clear hL
  generalize fl (svs xs) = L0 at *
  generalize timF (svs xs) n0 = z at *
  go_enter Tryz.func69, Tryz.ntmps69
  go_wp2_with (first
    | (go_at_call 70; refine hc.mono ?_; rintro e w1 ⟨v, rfl, ho, k1⟩; have K1 : Hid (Kept No w w1) := HK.out.trans k1 (fun _ h => h.elim); obtain ⟨a, c, rfl, hf⟩ := HO.out v w1 _ ho; have hc2 := hf w1 (Kept.refl No w1); clear hf ho k1)
    | (go_at_call 34; refine hc2.mono ?_; rintro e w2 ⟨rfl, k2⟩; have K2 : Hid (Kept No w w2) := K1.out.trans k2 (fun _ h => h.elim); clear k2))
  go_ret
  exact ⟨rfl, K2.out⟩

/-- the first of the steps that finds something -/
def firstF (s : Nat → Option (Int × Int)) : Nat → Option (Int × Int)
  | 0 => none
  | n + 1 => match firstF s n with
    | some p => some p
    | none => s n
theorem firstF_hit {s : Nat → Option (Int × Int)} {k : Nat} {p : Int × Int} (h : firstF s k = none) (he : s k = some p) : ∀ n, k < n → firstF s n = some p
  | 0, hn => by omega
  | n + 1, hn => by
    rcases Nat.lt_or_eq_of_le (Nat.lt_succ_iff.1 hn) with h1 | h1
    · rw [firstF, firstF_hit h he n h1]
    · subst h1; rw [firstF, h]; exact he
theorem firstF_miss {s : Nat → Option (Int × Int)} {k : Nat} (h : firstF s k = none) (he : s k = none) : firstF s (k + 1) = none := by rw [firstF, h]; exact he
theorem firstF_none {s : Nat → Option (Int × Int)} : ∀ {n : Nat}, firstF s n = none → ∀ i, i < n → s i = none
  | 0, _, i, hi => by omega
  | n + 1, h, i, hi => by
    cases hf : firstF s n with
    | some p => rw [firstF, hf] at h; cases h
    | none =>
      rcases Nat.lt_or_eq_of_le (Nat.lt_succ_iff.1 hi) with h1 | h1
      · exact firstF_none hf i h1
      · subst h1; rw [firstF, hf] at h; exact h

/-- the steps' functions -/
def fkS : Nat → Nat
  | 0 => 63
  | 1 => 66
  | 2 => 69
  | 3 => 71
  | 4 => 73
  | _ => 76
/-- what each of them finds -/
def stS (x : Im) : Nat → Option (Int × Int)
  | 0 => if x.parts.length ≤ 32 ∧ x.ports.length ≤ 64 ∧ x.chans.length ≤ 64 then none else some (100, 0)
  | 1 => eachF (fun i => rowsF (fun j => if bCn (x.parts.getD i dPn) j then 0 else 100) 6) 1 x.parts.length
  | 2 => timF (svs x.parts) x.parts.length
  | 3 => eachF (fun i => rowsF (ePt (x.parts.getD i dPn)) 9) 1 x.parts.length
  | 4 => eachF (fun i => rowsF (fun j => if bPo x.parts.length (x.ports.getD i ⟨0, 0, false, 0, 0, 0⟩) j then 0 else 107) 5) 1 x.ports.length
  | _ => eachF (fun i => rowsF (fun j => if bCh x.ports x.chans i j then 0 else 108) 8) 1 x.chans.length
def chkF (x : Im) : Option (Int × Int) := firstF (stS x) 6

theorem steps_any (w : World) : Calls Tryz.prog 42 #[] w fun e w' => ∃ tb, e = .returned (.slice (some ⟨tb, 0, none⟩) 6 6) ∧ (∀ j, j < 6 → w'.cell? ⟨tb, j, none⟩ = some (.func (.func (fkS j)) #[] #[])) ∧ Kept No w w' := by
  have HK : Hid (∀ o, Kept No w (w.alloc o)) := fun o => (Kept.refl No w).alloc o
  go_enter Tryz.func42, Tryz.ntmps42
  go_wp2
  go_ret
  refine ⟨w.heap.size, rfl, ?_, HK.out _⟩
  intro j hj
  match j, hj with
  | 0, _ => simp [fkS]
  | 1, _ => simp [fkS]
  | 2, _ => simp [fkS]
  | 3, _ => simp [fkS]
  | 4, _ => simp [fkS]
  | 5, _ => simp [fkS]
theorem fkS_enters : ∀ j, j < 6 → Enters Tryz.prog (fkS j) := by
  intro j hj
  match j, hj with
  | 0, _ => exact enters_of Tryz.func63 (by kernel_rfl) rfl
  | 1, _ => exact enters_of Tryz.func66 (by kernel_rfl) rfl
  | 2, _ => exact enters_of Tryz.func69 (by kernel_rfl) rfl
  | 3, _ => exact enters_of Tryz.func71 (by kernel_rfl) rfl
  | 4, _ => exact enters_of Tryz.func73 (by kernel_rfl) rfl
  | 5, _ => exact enters_of Tryz.func76 (by kernel_rfl) rfl
theorem step_any {F : Nat → Prop} {a0 : Option Addr} {n0 c0 : Nat} {a1 : Option Addr} {n1 c1 : Nat} {a2 : Option Addr} {n2 c2 : Nat} {x : Im} (w : World) (hg : Gl w) (h : Img w F a0 n0 c0 a1 n1 c1 a2 n2 c2 x) (j : Nat) (hj : j < 6) (hz : firstF (stS x) j = none) :
    Calls Tryz.prog (fkS j) #[.agg #[.slice a0 n0 c0, .slice a1 n1 c1, .slice a2 n2 c2]] w fun e w' => e = .returned (fv (stS x j)) ∧ Kept No w w' := by
  have l0 := h.ps.len
  have l1 := h.qs.len
  have l2 := h.cs.len
  have m0 := h.ps.max
  have m1 := h.qs.max
  have m2 := h.cs.max
  have q0 := h.ps.cap
  have q1 := h.qs.cap
  have q2 := h.cs.cap
  match j, hj, hz with
  | 0, _, _ => have := step1 a0 n0 c0 a1 n1 c1 a2 n2 c2 w (by omega) (by omega) (by omega); simp only [stS, l0, l1, l2]; exact this
  | 1, _, _ => have := step2 F a0 n0 c0 (.slice a1 n1 c1) (.slice a2 n2 c2) x.parts w h.ps; simp only [stS, l0]; exact this
  | 2, _, hz =>
    have h0 := firstF_none hz 0 (by omega)
    have : x.parts.length ≤ 32 := by
      simp only [stS] at h0
      split at h0
      · rename_i hc; exact hc.1
      · cases h0
    have := step3 F a0 n0 c0 (.slice a1 n1 c1) (.slice a2 n2 c2) x.parts w (by omega) h.ps
    simp only [stS, l0]; exact this
  | 3, _, _ => have := step4 F a0 n0 c0 (.slice a1 n1 c1) (.slice a2 n2 c2) x.parts w hg h.ps; simp only [stS, l0]; exact this
  | 4, _, _ => have := step5 F a0 n0 c0 a1 n1 c1 (.slice a2 n2 c2) x.ports w (by omega) h.qs; simp only [stS, l0, l1]; exact this
  | 5, _, _ => have := step6 F (.slice a0 n0 c0) a1 n1 c1 a2 n2 c2 x.ports x.chans w h.qs h.cs; simp only [stS, l2]; exact this

set_option maxHeartbeats 16000000 in
theorem check_any {F : Nat → Prop} {a0 : Option Addr} {n0 c0 : Nat} {a1 : Option Addr} {n1 c1 : Nat} {a2 : Option Addr} {n2 c2 : Nat} {x : Im} (w : World) (hg : Gl w) (h : Img w F a0 n0 c0 a1 n1 c1 a2 n2 c2 x) :
    Calls Tryz.prog 25 #[.agg #[.slice a0 n0 c0, .slice a1 n1 c1, .slice a2 n2 c2]] w fun e w' => e = .returned (.tuple #[.int .i64 (fe (chkF x)), .int .i64 (fn (chkF x))]) ∧ Kept No w w' := by
  have HI : Hid (∀ W, Kept No w W → ∀ j, j < 6 → firstF (stS x) j = none → Calls Tryz.prog (fkS j) #[.agg #[.slice a0 n0 c0, .slice a1 n1 c1, .slice a2 n2 c2]] W fun e w' => e = .returned (fv (stS x j)) ∧ Kept No W w') := fun W k j hj hz => step_any W (hg.kept k) (h.kept k (fun _ _ h => h)) j hj hz
  have HG : Hid (Gl w) := hg
  have K0 : Kept No w (w.alloc (.cells #[.slice a0 n0 c0, .slice a1 n1 c1, .slice a2 n2 c2] 26)) := (Kept.refl No w).alloc _
  have HM : Hid (∀ W, Kept No (w.alloc (.cells #[.slice a0 n0 c0, .slice a1 n1 c1, .slice a2 n2 c2] 26)) W → W.cell? ⟨w.heap.size, 0, none⟩ = some (.slice a0 n0 c0) ∧ W.cell? ⟨w.heap.size, 1, none⟩ = some (.slice a1 n1 c1) ∧ W.cell? ⟨w.heap.size, 2, none⟩ = some (.slice a2 n2 c2) ∧ Kept No w W) := fun W k => ⟨k.cell (by simp) (fun h => h), k.cell (by simp) (fun h => h), k.cell (by simp) (fun h => h), K0.trans k (fun _ h => h.elim)⟩
  have hs := steps_any (w.alloc (.cells #[.slice a0 n0 c0, .slice a1 n1 c1, .slice a2 n2 c2] 26))
  clear hg h K0
  obtain ⟨s, hse⟩ : ∃ s, s = stS x := ⟨_, rfl⟩
  unfold chkF
  rw [← hse] at HI ⊢
  clear hse
  obtain ⟨R, hR⟩ : ∃ R, firstF s 6 = R := ⟨_, rfl⟩
  rw [hR]
  have HR : Hid (firstF s 6 = R) := hR
  clear hR
  go_enter Tryz.func25, Tryz.ntmps25
  go_upto_region 1 with fail
  generalize hw0 : w.alloc (.cells #[.slice a0 n0 c0, .slice a1 n1 c1, .slice a2 n2 c2] 26) = w0 at *
  clear hw0
  go_wp2_with (go_at_call 42; refine hs.mono ?_; rintro e w1 ⟨tb, rfl, ht, k1⟩; have HT : Hid ((∀ j, j < 6 → w1.cell? ⟨tb, j, none⟩ = some (.func (.func (fkS j)) #[] #[])) ∧ Kept No w0 w1) := ⟨ht, k1⟩; clear ht k1)
  go_loopw [9] (fun i wr => ∃ k : Nat, k ≤ 6 ∧ i = .int .i64 k ∧ Kept No w1 wr ∧ firstF s k = none) (fun i _ => 6 - (intOf i).toNat)
  case atStart => exact ⟨0, by omega, rfl, Kept.refl _ _, rfl⟩
  case round =>
    obtain ⟨k, hk, rfl, K, hno⟩ := hrel
    by_cases hlt : k < 6
    · have hltz : (k : Int) < 6 := by omega
      have hc := K.cell (HT.out.1 k hlt) (fun h => h)
      have hen := fkS_enters k hlt
      have KA : Kept No w0 (wr.alloc (.cells #[.func (.func (fkS k)) #[] #[]] 109)) := (HT.out.2.trans K (fun _ h => h.elim)).alloc _
      obtain ⟨m0, m1, m2, KW⟩ := HM.out _ KA
      have cs := HI.out _ KW k hlt hno
      have HN : Hid (firstF s k = none) := hno
      have HKW : Hid (Kept No w1 (wr.alloc (.cells #[.func (.func (fkS k)) #[] #[]] 109)) ∧ Kept No w (wr.alloc (.cells #[.func (.func (fkS k)) #[] #[]] 109))) := ⟨K.alloc _, KW⟩
      unfold Enters at hen
      clear hno K KA KW
      generalize fkS k = g at *
      cases hsk : s k with
      | none =>
        have HF : Hid (firstF s (k + 1) = none) := firstF_miss HN.out hsk
        rw [hsk, show fv none = Value.nilIface from rfl] at cs
        clear hsk
        go_wp2_with (go_at_fn g; refine cs.mono ?_; rintro e w2 ⟨rfl, k2⟩)
        go_roundw
        case rel => exact ⟨k + 1, by omega, by go_num, HKW.out.1.trans k2 (fun _ h => h.elim), HF.out⟩
        case measure => simp [intOf]; omega
      | some p =>
        have HF : Hid (firstF s 6 = some p) := firstF_hit HN.out hsk 6 hlt
        obtain ⟨px, py⟩ := p
        rw [hsk, fv_some] at cs
        clear hsk
        go_wp2_with (first
          | (go_at_fn g; refine cs.mono ?_; rintro e w2 ⟨rfl, k2⟩; have HK2 : Hid (Kept No w w2) := HKW.out.2.trans k2 (fun _ h => h.elim); have ct := told_any (some (px, py)) w2 (HG.out.kept HK2.out); rw [fv_some] at ct; clear k2)
          | (go_at_call 35; refine ct.mono ?_; rintro e w3 ⟨rfl, k3⟩; have HK3 : Hid (Kept No w w3) := HK2.out.trans k3 (fun _ h => h.elim); clear k3))
        go_ret2
        exact ⟨by rw [← HR.out, HF.out]; rfl, HK3.out⟩
    · have hke : k = 6 := by omega
      subst hke
      have HN : Hid (firstF s 6 = none) := hno
      have HKW : Hid (Kept No w wr) := (HM.out _ (HT.out.2.trans K (fun _ h => h.elim))).2.2.2
      clear hno K
      go_wp2
      go_ret2
      exact ⟨by rw [← HR.out, HN.out]; rfl, HKW.out⟩
end Go.Proofs.YtnmhcnppdhdhfaaGreatDoor

namespace Go.Proofs.YtnmhcnppdhdhfaaGreatDoor
open Go.RowKit Plain
set_option linter.unusedVariables false
set_option maxRecDepth 100000

def gs (xs : List Srv) (i : Nat) : Srv := xs.getD i ⟨0, 0, 0, 0⟩
def sys (xs : List Srv) : Rule.Sys := ⟨xs.length, fun i => (gs xs i).p.toNat, fun i => (gs xs i).b.toNat, fun i => (gs xs i).o.toNat, fun i => (gs xs i).q⟩
/-- the hyperperiod -/
def hyp (xs : List Srv) : Nat := (lcmV (zP xs) xs.length 1048576).toNat

structure Vd (xs : List Srv) : Prop where
  num : xs.length ≤ 32
  per : ∀ i, i < xs.length → 1 ≤ (gs xs i).p ∧ (gs xs i).p ≤ 1048576
  bud : ∀ i, i < xs.length → 1 ≤ (gs xs i).b ∧ (gs xs i).b ≤ (gs xs i).p
  off : ∀ i, i < xs.length → 0 ≤ (gs xs i).o ∧ (gs xs i).o < (gs xs i).p
  inj : ∀ i j, i < xs.length → j < xs.length → (gs xs i).q = (gs xs j).q → i = j
  hyp1 : 1 ≤ hyp xs
  hyp2 : hyp xs ≤ 1048576
  dvd : ∀ i, i < xs.length → (gs xs i).p.toNat ∣ hyp xs

theorem Vd.bd {xs : List Srv} (h : Vd xs) : Bd (sys xs) := by
  refine ⟨⟨fun i hi => ?_, fun i hi => ?_, fun i j hi hj e => h.inj i j hi hj e⟩, fun i hi => ?_, fun i hi => ?_, h.num⟩
  · have := h.per i hi; show 0 < (gs xs i).p.toNat; omega
  · have := h.off i hi; show (gs xs i).o.toNat < (gs xs i).p.toNat; omega
  · have := h.per i hi; show (gs xs i).p.toNat ≤ _; omega
  · have := h.bud i hi; have := h.per i hi; show (gs xs i).b.toNat ≤ _; omega

theorem inB_of {n lo hi : Int} (h : inB n lo hi = true) : lo ≤ n ∧ n ≤ hi := by simpa [inB] using h
theorem idxF_m1 {ys : List Srv} {q : Int} : ∀ {n : Nat}, ¬ 0 ≤ idxF ys q n → idxF ys q n = -1
  | 0, _ => rfl
  | n + 1, h => by
    rw [idxF] at h ⊢
    by_cases h1 : idxF ys q n = -1
    · rw [if_pos h1] at h ⊢
      by_cases h2 : (ys.getD n ⟨0, 0, 0, 0⟩).q = q
      · rw [if_pos h2] at h; omega
      · rw [if_neg h2]
    · rw [if_neg h1] at h ⊢
      exact idxF_m1 h
theorem idxF_neg {ys : List Srv} {q : Int} : ∀ {n : Nat}, ¬ 0 ≤ idxF ys q n → ∀ j, j < n → (ys.getD j ⟨0, 0, 0, 0⟩).q ≠ q
  | 0, _, j, hj => by omega
  | n + 1, h, j, hj => by
    rw [idxF] at h
    by_cases h1 : idxF ys q n = -1
    · rw [if_pos h1] at h
      by_cases h2 : (ys.getD n ⟨0, 0, 0, 0⟩).q = q
      · rw [if_pos h2] at h; omega
      · by_cases e : j = n
        · subst e; exact h2
        · exact idxF_neg (by rw [h1]; omega) j (by omega)
    · rw [if_neg h1] at h
      exfalso
      exact h1 (idxF_m1 h)
theorem vd_of {xs : List Srv} (h : timF xs xs.length = none) : Vd xs := by
  have hf := tim_none h
  have hf' := hf
  unfold findF at hf'
  by_cases h32 : xs.length ≤ 32
  · rw [if_pos h32] at hf'
    have key : ∀ i, i < xs.length → ∀ j, j < 5 → bS xs i j = true := fun i hi j hj => by
      have := rowsF_zero (eachF_none hf' i hi) j hj
      by_cases hb : bS xs i j = true
      · exact hb
      · rw [if_neg hb] at this; omega
    have hb : lcmB (zP xs) xs.length 1048576 = true := by
      unfold timF at h
      rw [hf] at h
      unfold togF at h
      by_cases hb : lcmB (zP xs) xs.length 1048576 = true
      · exact hb
      · rw [if_neg hb] at h; cases h
    unfold lcmB at hb
    have hpos := of_decide_eq_true hb
    have hl := lcmV_facts (zP xs) xs.length 1048576
    have hper : ∀ i, i < xs.length → 1 ≤ (gs xs i).p ∧ (gs xs i).p ≤ 1048576 := fun i hi => by
      have := key i hi 0 (by omega)
      exact inB_of this
    refine ⟨h32, hper, fun i hi => ?_, fun i hi => ?_, ?_, ?_, ?_, fun i hi => ?_⟩
    · have := key i hi 1 (by omega)
      exact inB_of this
    · have := key i hi 2 (by omega)
      have hp := hper i hi
      have e : wrap64 ((gs xs i).p - 1) = (gs xs i).p - 1 := by unfold wrap64; omega
      have h2 : (0 ≤ (gs xs i).o) ∧ (gs xs i).o ≤ wrap64 ((gs xs i).p - 1) := inB_of this
      rw [e] at h2
      omega
    · have hq : ∀ i j, i < xs.length → j < i → (gs xs i).q ≠ (gs xs j).q := fun i j hi hj e => by
        have := key i hi 4 (by omega)
        simp only [bS, Bool.not_eq_true', decide_eq_false_iff_not] at this
        have h2 := idxF_neg this j hj
        apply h2
        have e2 : (xs.take i).getD j ⟨0, 0, 0, 0⟩ = xs.getD j ⟨0, 0, 0, 0⟩ := by
          rw [List.getD_eq_getElem?_getD, List.getD_eq_getElem?_getD, List.getElem?_take, if_pos hj]
        rw [e2]
        exact e.symm
      intro i j hi hj e
      rcases Nat.lt_trichotomy i j with h1 | h1 | h1
      · exact (hq j i hj h1 e.symm).elim
      · exact h1
      · exact (hq i j hi h1 e).elim
    · unfold hyp; omega
    · unfold hyp; have := (hl.2.1 hpos).1; omega
    · have := ((hl.2.1 hpos).2 i hi)
      have h1 : (gs xs i).p ∣ lcmV (zP xs) xs.length 1048576 := this.2
      have hp := (hper i hi).1
      unfold hyp
      rw [← Int.natCast_dvd_natCast, Int.toNat_of_nonneg (by omega), Int.toNat_of_nonneg (by omega)]
      exact h1
  · rw [if_neg h32] at hf'; cases hf'
end Go.Proofs.YtnmhcnppdhdhfaaGreatDoor

namespace Go.Proofs.YtnmhcnppdhdhfaaGreatDoor
open Go.RowKit Plain
set_option linter.unusedVariables false
set_option maxRecDepth 100000

theorem perm_line {xs : List Srv} (hv : Vd xs) {A : List Plr} (hp : A.Perm ((List.range xs.length).map (pl0 xs))) (hs : A.Pairwise (fun x y => y.s.q ≤ x.s.q)) :
    ∃ idx : Nat → Nat, (∀ k, k < xs.length → A[k]? = some (pl0 xs (idx k)) ∧ idx k < xs.length) ∧ (∀ j k, j < k → k < xs.length → (gs xs (idx k)).q < (gs xs (idx j)).q) ∧ ∀ i, i < xs.length → ∃ k, k < xs.length ∧ idx k = i := by
  have hlen : A.length = xs.length := by have := hp.length_eq; simpa using this
  have hmem : ∀ x, x ∈ A → ∃ i, i < xs.length ∧ pl0 xs i = x := fun x hx => by
    have := hp.mem_iff.1 hx
    rw [List.mem_map] at this
    obtain ⟨i, hi, e⟩ := this
    exact ⟨i, List.mem_range.1 hi, e⟩
  have hne : A.Pairwise (fun x y => x.t ≠ y.t) := by
    refine (hp.pairwise_iff (fun {a b} h => Ne.symm h)).2 ?_
    rw [List.pairwise_map]
    refine List.Pairwise.imp ?_ List.pairwise_lt_range
    intro i j hij
    show ((i : Int) + 1) ≠ (j : Int) + 1
    omega
  have hA : ∀ k, k < xs.length → ∃ i, A[k]? = some (pl0 xs i) ∧ i < xs.length := fun k hk => by
    have hk' : k < A.length := by omega
    obtain ⟨i, hi, e⟩ := hmem A[k] (List.getElem_mem hk')
    exact ⟨i, by rw [List.getElem?_eq_getElem hk', e], hi⟩
  refine ⟨fun k => ((A[k]?.getD default).t - 1).toNat, fun k hk => ?_, fun j k hjk hk => ?_, fun i hi => ?_⟩
  · obtain ⟨i, e, hi⟩ := hA k hk
    have e2 : ((A[k]?.getD default).t - 1).toNat = i := by rw [e]; show ((i : Int) + 1 - 1).toNat = i; omega
    simp only [e2]
    exact ⟨e, hi⟩
  · obtain ⟨i, e, hi⟩ := hA k hk
    obtain ⟨i', e', hi'⟩ := hA j (by omega)
    have e2 : ((A[k]?.getD default).t - 1).toNat = i := by rw [e]; show ((i : Int) + 1 - 1).toNat = i; omega
    have e3 : ((A[j]?.getD default).t - 1).toNat = i' := by rw [e']; show ((i' : Int) + 1 - 1).toNat = i'; omega
    simp only [e2, e3]
    have hj' : j < A.length := by omega
    have hk' : k < A.length := by omega
    have a1 := (List.pairwise_iff_getElem.1 hs) j k hj' hk' hjk
    have a2 := (List.pairwise_iff_getElem.1 hne) j k hj' hk' hjk
    rw [List.getElem?_eq_getElem hk'] at e
    rw [List.getElem?_eq_getElem hj'] at e'
    injection e with e
    injection e' with e'
    rw [e, e'] at a1 a2
    have a3 : (gs xs i).q ≤ (gs xs i').q := a1
    have a4 : (i' : Int) + 1 ≠ (i : Int) + 1 := a2
    apply Decidable.byContradiction
    intro hn
    have := hv.inj i i' hi hi' (by omega)
    omega
  · have : pl0 xs i ∈ A := hp.mem_iff.2 (List.mem_map.2 ⟨i, List.mem_range.2 hi, rfl⟩)
    obtain ⟨k, hk, e⟩ := List.getElem_of_mem this
    refine ⟨k, by omega, ?_⟩
    show ((A[k]?.getD default).t - 1).toNat = i
    rw [List.getElem?_eq_getElem hk, e]
    show ((i : Int) + 1 - 1).toNat = i
    omega

theorem nv_of {x : Int} (h : 0 ≤ x) : Value.int .i64 x = nv x.toNat := by unfold nv; rw [Int.toNat_of_nonneg h]

theorem line_up {F : Nat → Prop} {a : Option Addr} {c : Nat} {xs : List Srv} {w : World} (h : Sv w F a xs.length c xs) (hv : Vd xs) :
    Calls Tryz.prog 59 #[.slice a xs.length c] w fun e w' => ∃ g idx, e = .returned (.slice (some ⟨g, 0, none⟩) xs.length xs.length) ∧ w.heap.size ≤ g ∧ g < w'.heap.size ∧ Pl w' g (sys xs) idx (fun _ => 0) (fun k => (sys xs).O (idx k)) ∧ Rule.Inv (sys xs) idx (fun _ => 0) (fun k => (sys xs).O (idx k)) 0 ∧ Kept No w w' := by
  refine (line_any F a xs.length c xs w h hv.num (fun g w' => w.heap.size ≤ g ∧ g < w'.heap.size ∧ Kept No w w' ∧ ∃ idx, Pl w' g (sys xs) idx (fun _ => 0) (fun k => (sys xs).O (idx k)) ∧ Rule.Inv (sys xs) idx (fun _ => 0) (fun k => (sys xs).O (idx k)) 0) ?_).mono ?_
  · intro w1 g cur hf hk hg
    refine (sort_any _ g xs.length xs.length w1 (hf.owns hv.num) hv.num).mono ?_
    rintro e w2 ⟨hv', A, hp, hs, hown, hk2⟩
    refine ⟨hv', hg, (hown.lt g rfl).2, hk.trans hk2 (fun k e => .inr (by omega)), ?_⟩
    obtain ⟨idx, i1, i2, i3⟩ := perm_line hv hp hs
    refine ⟨idx, ⟨fun k hk => ?_, fun i => ?_⟩, Rule.Inv.start hv.bd.ok (fun k hk => (i1 k hk).2) i2 i3⟩
    · obtain ⟨e1, e2⟩ := i1 k hk
      have C := fun i (hi : i < 7) u (hu : (pc (pl0 xs (idx k)))[i]? = some u) => hown.cells (g := g) rfl (k * 7 + i) u (by rw [pcL_at A k i _ e1 hi]; exact hu)
      have hpr := hv.per _ e2
      have hbu := hv.bud _ e2
      have hof := hv.off _ e2
      have c0 := C 0 (by omega) _ rfl
      have c1 := C 1 (by omega) _ rfl
      have c2 := C 2 (by omega) _ rfl
      have c4 := C 4 (by omega) _ rfl
      have c5 := C 5 (by omega) _ rfl
      have c6 := C 6 (by omega) _ rfl
      rw [add_none, Nat.zero_add] at c0 c1 c2 c4 c5 c6
      refine ⟨?_, ?_, ?_, ?_, ?_, ?_⟩
      · rw [show k * 7 = k * 7 + 0 by omega, c0]; exact congrArg some (nv_of (x := (gs xs (idx k)).p) (by omega))
      · rw [c1]; exact congrArg some (nv_of (x := (gs xs (idx k)).b) (by omega))
      · rw [c2]; exact congrArg some (nv_of (x := (gs xs (idx k)).o) (by omega))
      · rw [c4]; rfl
      · rw [c5]; rfl
      · rw [c6]; exact congrArg some (nv_of (x := (gs xs (idx k)).o) (by omega))
    · obtain ⟨_, ⟨h1, _⟩ | ⟨g', cap', cur', hv2, hb, hg', _⟩⟩ := hown
      · cases h1
      · injection hv2 with e1 _ _
        injection e1 with e1
        injection e1 with e1 _ _
        subst e1
        simp [World.frozen?, hg']
  · rintro e w' ⟨g, rfl, h1, h2, h3, idx, h4, h5⟩
    exact ⟨g, idx, rfl, h1, h2, h4, h5, h3⟩
end Go.Proofs.YtnmhcnppdhdhfaaGreatDoor
