/-
  One text: CPsv, CChk.
-/
import Derived.Test.YtfjaajjljmbmbaaGreatDoorGC
import Derived.Test.YtfjaajjljmbmbaaGreatDoorGH
import Derived.Test.YtfjaajjljmbmbaaGreatDoorCChT
import Derived.Test.YtfjaajjljmbmbaaGreatDoorGS
import Derived.Test.YtfjaajjljmbmbaaGreatDoorGP
namespace Go.Proofs.YtfjaajjljmbmbaaGreatDoor.Ck
open Go.RowKit Plain
set_option linter.unusedVariables false
set_option linter.unusedSimpArgs false
set_option maxRecDepth 100000

def pnSv (x : Pn) : Srv := ⟨x.pe, x.bu, x.off, x.pr⟩
def svs (xs : List Pn) : List Srv := xs.map pnSv
theorem svs_len (xs : List Pn) : (svs xs).length = xs.length := by rw [svs, List.length_map]


set_option maxHeartbeats 8000000 in
theorem psrv_any (F : Nat → Prop) (a : Option Addr) (n c : Nat) (xs : List Pn) (w : World) (h : Ls 21 elPn w F a n c xs) (hn : n ≤ 70000) :
    Calls Tryz.prog 45 #[.slice a n c] w fun e w' => ∃ v, e = .returned v ∧ w'.ownsRow w.heap.size 77 4 v n (fl (svs xs)) ∧ Kept No w w' := by
  obtain ⟨i0, hi, hz0, hz1, hz2⟩ := info_parts Tryz.infoS
  have H : Hid (Ls 21 elPn w F a n c xs) := h
  clear h
  go_enter Tryz.func45, Tryz.ntmps45
  go_wp2
  go_loopw [3, 8] (fun v x wr => ∃ k : Nat, k ≤ n ∧ x = .int .i64 k ∧ Kept No w wr ∧ wr.ownsRow w.heap.size 77 4 v k (fl ((svs xs).take k))) (fun _ x _ => n - (intOf x).toNat)
  case atStart => exact ⟨0, by omega, rfl, Kept.refl No w, ⟨rfl, .inl ⟨rfl, rfl⟩⟩⟩
  case round =>
    obtain ⟨k, hk, rfl, hkr, hown⟩ := hrel
    by_cases hlt : k < n
    · have hx : xs[k]? = some (xs.getD k dPn) := by rw [List.getD, List.getElem?_eq_getElem (by rw [H.out.len]; exact hlt)]; rfl
      obtain ⟨b, o, cs, rfl, hb, hl, hr, hE⟩ := H.out.at' k _ hx
      have HNX : Hid (fl ((svs xs).take (k + 1)) = fl ((svs xs).take k) ++ fl [pnSv (xs.getD k dPn)]) := by
        show fl ((svs xs).take (k + 1)) = _
        rw [← fl_app, List.take_add_one, svs, List.getElem?_map, hx]
        rfl
      have HL : Hid ((fl ((svs xs).take k)).length = k * 4) := by show (fl ((svs xs).take k)).length = k * 4; rw [fl_len, List.length_take, svs, List.length_map, H.out.len]; congr 1; omega
      generalize fl ((svs xs).take k) = L0 at *
      generalize xs.getD k dPn = y at *
      obtain ⟨ya, yb, yc, yd, cs0, he⟩ : ∃ ya yb yc yd cs0, cs = .int .i64 ya :: .int .i64 yb :: .int .i64 yc :: .int .i64 yd :: cs0 := by
        obtain ⟨a0, n0, c0, a1, n1, c1, a2, n2, c2, a3, n3, c3, a4, n4, c4, a5, n5, c5, e, _⟩ := hE.sl
        exact ⟨_, _, _, _, _, e⟩
      have hy : pnSv y = ⟨ya, yb, yc, yd⟩ := by
        obtain ⟨a0, n0, c0, a1, n1, c1, a2, n2, c2, a3, n3, c3, a4, n4, c4, a5, n5, c5, e, _⟩ := hE.sl
        rw [he] at e
        simp only [List.cons.injEq, Value.int.injEq, true_and] at e
        obtain ⟨e1, e2, e3, e4, _⟩ := e
        rw [pnSv, e1, e2, e3, e4]
      rw [hy] at HNX
      have h1 : ∀ v ∈ cs, v.oneCell' = true := by
        obtain ⟨a0, n0, c0, a1, n1, c1, a2, n2, c2, a3, n3, c3, a4, n4, c4, a5, n5, c5, e, _⟩ := hE.sl
        rw [e]
        simp [Value.oneCell']
      generalize wr = wo at *
      obtain ⟨w1, hst, hrg, hk1⟩ := box_PnE wo cs hl h1
      have HLD : Hid ((Instr.loadAt 86 (.pointer (some ⟨b, o + k * 21, none⟩))).run Tryz.prog wo = .ok (.agg cs.toArray) wo) := run_loadAt_mid wo b (o + k * 21) _ cs _ (rangeAt_kept hr hkr (fun h => h)) Tryz.underlying86 rfl (by rw [hl]; exact sizeEPn)
      have HST : Hid ((Instr.storeAt 86 (.pointer (some ⟨wo.heap.size, 0, none⟩)) (.agg cs.toArray)).run Tryz.prog (wo.alloc (.cells #[.int .i64 0, .int .i64 0, .int .i64 0, .int .i64 0, .int .i64 0, .int .i64 0, .slice none 0 0, .slice none 0 0, .slice none 0 0, .int .i64 0, .int .i64 0, .int .i64 0, .int .i64 0, .int .i64 0, .int .i64 0, .int .i64 0, .int .i64 0, .int .i64 0, .slice none 0 0, .slice none 0 0, .slice none 0 0] 86)) = .ok () w1) := hst
      have HW : Hid (Kept No w w1) := hkr.trans hk1 (fun _ h => h.elim)
      have HOW : Hid (w1.ownsRow w.heap.size 77 4 u3 k L0) := hk1.owns hown (fun _ _ h => h)
      have hcap : k ≤ c := by have := H.out.cap; omega
      have hn' : n ≤ 9223372036854775807 := by omega
      rw [he] at hrg
      have d0 := hrg 0 _ rfl
      have d1 := hrg 1 _ rfl
      have d2 := hrg 2 _ rfl
      have d3 := hrg 3 _ rfl
      rw [Nat.add_zero] at d0
      simp only [Nat.zero_add] at d1 d2 d3
      clear hkr hr hl h1 hst hrg hk1 hE hx hown hb he hy
      generalize Value.agg cs.toArray = av at *
      go_upto_region 4 with fail
      refine wp_region_lit ?_
      refine l_take 10 rfl rfl (er_idxPn _ _ rfl b o n c k hlt hn' rfl rfl) ?_
      simp only [Act.put, List.setIfInBounds_toArray, List.set_cons_zero, List.set_cons_succ]
      refine l_take 11 rfl rfl (er_ld _ _ rfl _ _ rfl HLD.out) ?_
      simp only [Act.put, List.setIfInBounds_toArray, List.set_cons_zero, List.set_cons_succ]
      refine l_make 5 rfl rfl (er_alPn rfl) ?_
      simp only [Act.put, List.setIfInBounds_toArray, List.set_cons_zero, List.set_cons_succ]
      refine l_turn rfl rfl (er_st _ _ _ rfl _ _ rfl rfl HST.out) ?_
      clear HST HLD
      go_wp2_with (at_builtin; refine wpList_append_own_at _ rfl _ _ 90 rfl w.heap.size 77 i0 (.agg #[.int .i64 0, .int .i64 0, .int .i64 0, .int .i64 0]) 4 32 Tryz.underlying90 hi hz0 hz1 hz2 rfl (by decide) _ _ _ rfl (HOW.out.alloc _) ⟨w1.heap.size, 0, none⟩ 1 1 (fl [⟨ya, yb, yc, yd⟩]) rfl rfl (cell_four w1 ⟨ya, yb, yc, yd⟩ _) (fl_one _) (by unfold maxLen; omega) (by omega) (by have := HW.out.size; simp; omega) ?_; intro v1 w6 own1 grow1 _ at1)
      have HK6 : Hid (Kept No w w6 ∧ w6.ownsRow w.heap.size 77 4 v1 (k + 1) (fl ((svs xs).take (k + 1)))) := by
        exact ⟨(HW.out.alloc _).grown grow1 (fun g e => .inr (HOW.out.lt g e).1), by rw [HNX.out]; exact own1⟩
      clear own1 grow1 at1
      go_wp2
      go_roundw
      case rel => exact ⟨k + 1, by omega, by go_num, HK6.out.1, HK6.out.2⟩
      case measure => simp [intOf]; omega
    · have hke : k = n := by omega
      subst hke
      have HO : Hid (wr.ownsRow w.heap.size 77 4 u3 k (fl (svs xs))) := by
        rw [List.take_of_length_le (by rw [svs, List.length_map, H.out.len]; exact Nat.le_refl _)] at hown
        exact hown
      have HKR : Hid (Kept No w wr) := hkr
      clear hown hkr
      go_wp2
      go_ret
      exact ⟨_, rfl, HO.out, HKR.out⟩
end Go.Proofs.YtfjaajjljmbmbaaGreatDoor.Ck

namespace Go.Proofs.YtfjaajjljmbmbaaGreatDoor.Ck
open Go.RowKit Plain
set_option linter.unusedVariables false
set_option linter.unusedSimpArgs false
set_option maxRecDepth 100000

theorem svs_ok {F : Nat → Prop} {a : Option Addr} {n c : Nat} {xs : List Pn} {w : World} (h : Ls 21 elPn w F a n c xs) (i : Nat) (hi : i < n) : ((svs xs).getD i ⟨0, 0, 0, 0⟩).ok := by
  have hil : i < xs.length := by rw [h.len]; exact hi
  have hx : xs[i]? = some xs[i] := List.getElem?_eq_getElem hil
  obtain ⟨b, o, cs, e, hb, hl, hr, hE⟩ := h.at' i _ hx
  have : (svs xs).getD i ⟨0, 0, 0, 0⟩ = pnSv xs[i] := by rw [List.getD, svs, List.getElem?_map, hx]; rfl
  rw [this]
  exact ⟨hE.ok.1, hE.ok.2.1, hE.ok.2.2.1, hE.ok.2.2.2.1⟩

set_option maxHeartbeats 4000000 in
theorem step3 (F : Nat → Prop) (a0 : Option Addr) (n0 c0 : Nat) (v1 v2 : Value) (xs : List Pn) (w : World) (hn : n0 ≤ 70000) (hL : Ls 21 elPn w F a0 n0 c0 xs) :
    Calls Tryz.prog 43 #[.agg #[.slice a0 n0 c0, v1, v2]] w fun e w' => e = .returned (fv (timF (svs xs) n0)) ∧ Kept No w w' := by
  have HK : Hid (Kept No w (w.alloc (.cells #[.slice a0 n0 c0, v1, v2] 26))) := (Kept.refl No w).alloc _
  have hc := psrv_any F a0 n0 c0 xs (w.alloc (.cells #[.slice a0 n0 c0, v1, v2] 26)) (lsPn_keep hL HK.out) hn
  have HO : Hid (∀ (v : Value) (w' : World) (B : Nat), w'.ownsRow B 77 4 v n0 (fl (svs xs)) → ∃ a c, v = .slice a n0 c ∧ ∀ w'', Kept No w' w'' → Calls Tryz.prog 44 #[.slice a n0 c] w'' fun e w3 => e = .returned (fv (timF (svs xs) n0)) ∧ Kept No w'' w3) := by
    intro v w' B ho
    obtain ⟨a, c, e, hs⟩ := own_sv ho (by rw [svs_len, hL.len]) (fun i hi => svs_ok hL i hi)
    exact ⟨a, c, e, fun w'' k => findTiming_any _ a n0 c (svs xs) w'' (hs.keep k)⟩
  clear hL
  generalize fl (svs xs) = L0 at *
  generalize timF (svs xs) n0 = z at *
  go_enter Tryz.func43, Tryz.ntmps43
  go_wp2_with (first
    | (go_at_call 45; refine hc.mono ?_; rintro e w1 ⟨v, rfl, ho, k1⟩; have K1 : Hid (Kept No w w1) := HK.out.trans k1 (fun _ h => h.elim); obtain ⟨a, c, rfl, hf⟩ := HO.out v w1 _ ho; have hc2 := hf w1 (Kept.refl No w1); clear hf ho k1)
    | (go_at_call 44; refine hc2.mono ?_; rintro e w2 ⟨rfl, k2⟩; have K2 : Hid (Kept No w w2) := K1.out.trans k2 (fun _ h => h.elim); clear k2))
  go_ret
  exact ⟨rfl, K2.out⟩

/-- the first of the steps that finds something -/
def firstF (s : Nat → Option (Int × Int)) : Nat → Option (Int × Int)
  | 0 => none
  | n + 1 => match firstF s n with
    | some p => some p
    | none => s n
theorem firstF_hit {s : Nat → Option (Int × Int)} {k : Nat} {p : Int × Int} (h : firstF s k = none) (he : s k = some p) : ∀ n, k < n → firstF s n = some p
  | 0, hn => by omega
  | n + 1, hn => by
    rcases Nat.lt_or_eq_of_le (Nat.lt_succ_iff.1 hn) with h1 | h1
    · rw [firstF, firstF_hit h he n h1]
    · subst h1; rw [firstF, h]; exact he
theorem firstF_miss {s : Nat → Option (Int × Int)} {k : Nat} (h : firstF s k = none) (he : s k = none) : firstF s (k + 1) = none := by rw [firstF, h]; exact he
theorem firstF_none {s : Nat → Option (Int × Int)} : ∀ {n : Nat}, firstF s n = none → ∀ i, i < n → s i = none
  | 0, _, i, hi => by omega
  | n + 1, h, i, hi => by
    cases hf : firstF s n with
    | some p => rw [firstF, hf] at h; cases h
    | none =>
      rcases Nat.lt_or_eq_of_le (Nat.lt_succ_iff.1 hi) with h1 | h1
      · exact firstF_none hf i h1
      · subst h1; rw [firstF, hf] at h; exact h

/-- the steps' functions -/
def fkS : Nat → Nat
  | 0 => 37
  | 1 => 40
  | 2 => 43
  | 3 => 46
  | 4 => 48
  | _ => 51
/-- what each of them finds -/
def stS (x : Im) : Nat → Option (Int × Int)
  | 0 => if x.parts.length ≤ 32 ∧ x.ports.length ≤ 64 ∧ x.chans.length ≤ 64 then none else some (100, 0)
  | 1 => eachF (fun i => rowsF (fun j => if bCn (x.parts.getD i dPn) j then 0 else 100) 6) 1 x.parts.length
  | 2 => timF (svs x.parts) x.parts.length
  | 3 => eachF (fun i => rowsF (ePt (x.parts.getD i dPn)) 9) 1 x.parts.length
  | 4 => eachF (fun i => rowsF (fun j => if bPo x.parts.length (x.ports.getD i ⟨0, 0, false, 0, 0, 0⟩) j then 0 else 107) 5) 1 x.ports.length
  | _ => eachF (fun i => rowsF (fun j => if bCh x.ports x.chans i j then 0 else 108) 8) 1 x.chans.length
def chkF (x : Im) : Option (Int × Int) := firstF (stS x) 6

theorem steps_any (w : World) : Calls Tryz.prog 25 #[] w fun e w' => ∃ tb, e = .returned (.slice (some ⟨tb, 0, none⟩) 6 6) ∧ (∀ j, j < 6 → w'.cell? ⟨tb, j, none⟩ = some (.func (.func (fkS j)) #[] #[])) ∧ Kept No w w' := by
  have HK : Hid (∀ o, Kept No w (w.alloc o)) := fun o => (Kept.refl No w).alloc o
  go_enter Tryz.func25, Tryz.ntmps25
  go_wp2
  go_ret
  refine ⟨w.heap.size, rfl, ?_, HK.out _⟩
  intro j hj
  match j, hj with
  | 0, _ => simp [fkS]
  | 1, _ => simp [fkS]
  | 2, _ => simp [fkS]
  | 3, _ => simp [fkS]
  | 4, _ => simp [fkS]
  | 5, _ => simp [fkS]
theorem fkS_enters : ∀ j, j < 6 → Enters Tryz.prog (fkS j) := by
  intro j hj
  match j, hj with
  | 0, _ => exact enters_of Tryz.func37 (by kernel_rfl) rfl
  | 1, _ => exact enters_of Tryz.func40 (by kernel_rfl) rfl
  | 2, _ => exact enters_of Tryz.func43 (by kernel_rfl) rfl
  | 3, _ => exact enters_of Tryz.func46 (by kernel_rfl) rfl
  | 4, _ => exact enters_of Tryz.func48 (by kernel_rfl) rfl
  | 5, _ => exact enters_of Tryz.func51 (by kernel_rfl) rfl
theorem step_any {F : Nat → Prop} {a0 : Option Addr} {n0 c0 : Nat} {a1 : Option Addr} {n1 c1 : Nat} {a2 : Option Addr} {n2 c2 : Nat} {x : Im} (w : World) (hg : Gl w) (h : Img w F a0 n0 c0 a1 n1 c1 a2 n2 c2 x) (j : Nat) (hj : j < 6) (hz : firstF (stS x) j = none) :
    Calls Tryz.prog (fkS j) #[.agg #[.slice a0 n0 c0, .slice a1 n1 c1, .slice a2 n2 c2]] w fun e w' => e = .returned (fv (stS x j)) ∧ Kept No w w' := by
  have l0 := h.ps.len
  have l1 := h.qs.len
  have l2 := h.cs.len
  have m0 := h.ps.max
  have m1 := h.qs.max
  have m2 := h.cs.max
  have q0 := h.ps.cap
  have q1 := h.qs.cap
  have q2 := h.cs.cap
  match j, hj, hz with
  | 0, _, _ => have := step1 a0 n0 c0 a1 n1 c1 a2 n2 c2 w (by omega) (by omega) (by omega); simp only [stS, l0, l1, l2]; exact this
  | 1, _, _ => have := step2 F a0 n0 c0 (.slice a1 n1 c1) (.slice a2 n2 c2) x.parts w h.ps; simp only [stS, l0]; exact this
  | 2, _, hz =>
    have h0 := firstF_none hz 0 (by omega)
    have : x.parts.length ≤ 32 := by
      simp only [stS] at h0
      split at h0
      · rename_i hc; exact hc.1
      · cases h0
    have := step3 F a0 n0 c0 (.slice a1 n1 c1) (.slice a2 n2 c2) x.parts w (by omega) h.ps
    simp only [stS, l0]; exact this
  | 3, _, _ => have := step4 F a0 n0 c0 (.slice a1 n1 c1) (.slice a2 n2 c2) x.parts w hg h.ps; simp only [stS, l0]; exact this
  | 4, _, _ => have := step5 F a0 n0 c0 a1 n1 c1 (.slice a2 n2 c2) x.ports w (by omega) h.qs; simp only [stS, l0, l1]; exact this
  | 5, _, _ => have := step6 F (.slice a0 n0 c0) a1 n1 c1 a2 n2 c2 x.ports x.chans w h.qs h.cs; simp only [stS, l2]; exact this

set_option maxHeartbeats 16000000 in
theorem check_any {F : Nat → Prop} {a0 : Option Addr} {n0 c0 : Nat} {a1 : Option Addr} {n1 c1 : Nat} {a2 : Option Addr} {n2 c2 : Nat} {x : Im} (w : World) (hg : Gl w) (h : Img w F a0 n0 c0 a1 n1 c1 a2 n2 c2 x) :
    Calls Tryz.prog 11 #[.agg #[.slice a0 n0 c0, .slice a1 n1 c1, .slice a2 n2 c2]] w fun e w' => e = .returned (.tuple #[.int .i64 (fe (chkF x)), .int .i64 (fn (chkF x))]) ∧ Kept No w w' := by
  have HI : Hid (∀ W, Kept No w W → ∀ j, j < 6 → firstF (stS x) j = none → Calls Tryz.prog (fkS j) #[.agg #[.slice a0 n0 c0, .slice a1 n1 c1, .slice a2 n2 c2]] W fun e w' => e = .returned (fv (stS x j)) ∧ Kept No W w') := fun W k j hj hz => step_any W (hg.kept k) (h.kept k (fun _ _ h => h)) j hj hz
  have HG : Hid (Gl w) := hg
  have K0 : Kept No w (w.alloc (.cells #[.slice a0 n0 c0, .slice a1 n1 c1, .slice a2 n2 c2] 26)) := (Kept.refl No w).alloc _
  have HM : Hid (∀ W, Kept No (w.alloc (.cells #[.slice a0 n0 c0, .slice a1 n1 c1, .slice a2 n2 c2] 26)) W → W.cell? ⟨w.heap.size, 0, none⟩ = some (.slice a0 n0 c0) ∧ W.cell? ⟨w.heap.size, 1, none⟩ = some (.slice a1 n1 c1) ∧ W.cell? ⟨w.heap.size, 2, none⟩ = some (.slice a2 n2 c2) ∧ Kept No w W) := fun W k => ⟨k.cell (by simp) (fun h => h), k.cell (by simp) (fun h => h), k.cell (by simp) (fun h => h), K0.trans k (fun _ h => h.elim)⟩
  have hs := steps_any (w.alloc (.cells #[.slice a0 n0 c0, .slice a1 n1 c1, .slice a2 n2 c2] 26))
  clear hg h K0
  obtain ⟨s, hse⟩ : ∃ s, s = stS x := ⟨_, rfl⟩
  unfold chkF
  rw [← hse] at HI ⊢
  clear hse
  obtain ⟨R, hR⟩ : ∃ R, firstF s 6 = R := ⟨_, rfl⟩
  rw [hR]
  have HR : Hid (firstF s 6 = R) := hR
  clear hR
  go_enter Tryz.func11, Tryz.ntmps11
  go_upto_region 1 with fail
  generalize hw0 : w.alloc (.cells #[.slice a0 n0 c0, .slice a1 n1 c1, .slice a2 n2 c2] 26) = w0 at *
  clear hw0
  go_wp2_with (go_at_call 25; refine hs.mono ?_; rintro e w1 ⟨tb, rfl, ht, k1⟩; have HT : Hid ((∀ j, j < 6 → w1.cell? ⟨tb, j, none⟩ = some (.func (.func (fkS j)) #[] #[])) ∧ Kept No w0 w1) := ⟨ht, k1⟩; clear ht k1)
  go_loopw [9] (fun i wr => ∃ k : Nat, k ≤ 6 ∧ i = .int .i64 k ∧ Kept No w1 wr ∧ firstF s k = none) (fun i _ => 6 - (intOf i).toNat)
  case atStart => exact ⟨0, by omega, rfl, Kept.refl _ _, rfl⟩
  case round =>
    obtain ⟨k, hk, rfl, K, hno⟩ := hrel
    by_cases hlt : k < 6
    · have hltz : (k : Int) < 6 := by omega
      have hc := K.cell (HT.out.1 k hlt) (fun h => h)
      have hen := fkS_enters k hlt
      have KA : Kept No w0 (wr.alloc (.cells #[.func (.func (fkS k)) #[] #[]] 58)) := (HT.out.2.trans K (fun _ h => h.elim)).alloc _
      obtain ⟨m0, m1, m2, KW⟩ := HM.out _ KA
      have cs := HI.out _ KW k hlt hno
      have HN : Hid (firstF s k = none) := hno
      have HKW : Hid (Kept No w1 (wr.alloc (.cells #[.func (.func (fkS k)) #[] #[]] 58)) ∧ Kept No w (wr.alloc (.cells #[.func (.func (fkS k)) #[] #[]] 58))) := ⟨K.alloc _, KW⟩
      unfold Enters at hen
      clear hno K KA KW
      generalize fkS k = g at *
      cases hsk : s k with
      | none =>
        have HF : Hid (firstF s (k + 1) = none) := firstF_miss HN.out hsk
        rw [hsk, show fv none = Value.nilIface from rfl] at cs
        clear hsk
        go_wp2_with (go_at_fn g; refine cs.mono ?_; rintro e w2 ⟨rfl, k2⟩)
        go_roundw
        case rel => exact ⟨k + 1, by omega, by go_num, HKW.out.1.trans k2 (fun _ h => h.elim), HF.out⟩
        case measure => simp [intOf]; omega
      | some p =>
        have HF : Hid (firstF s 6 = some p) := firstF_hit HN.out hsk 6 hlt
        obtain ⟨px, py⟩ := p
        rw [hsk, fv_some] at cs
        clear hsk
        go_wp2_with (first
          | (go_at_fn g; refine cs.mono ?_; rintro e w2 ⟨rfl, k2⟩; have HK2 : Hid (Kept No w w2) := HKW.out.2.trans k2 (fun _ h => h.elim); have ct := told_any (some (px, py)) w2 (HG.out.kept HK2.out); rw [fv_some] at ct; clear k2)
          | (go_at_call 26; refine ct.mono ?_; rintro e w3 ⟨rfl, k3⟩; have HK3 : Hid (Kept No w w3) := HK2.out.trans k3 (fun _ h => h.elim); clear k3))
        go_ret2
        exact ⟨by rw [← HR.out, HF.out]; rfl, HK3.out⟩
    · have hke : k = 6 := by omega
      subst hke
      have HN : Hid (firstF s 6 = none) := hno
      have HKW : Hid (Kept No w wr) := (HM.out _ (HT.out.2.trans K (fun _ h => h.elim))).2.2.2
      clear hno K
      go_wp2
      go_ret2
      exact ⟨by rw [← HR.out, HN.out]; rfl, HKW.out⟩
end Go.Proofs.YtfjaajjljmbmbaaGreatDoor.Ck
