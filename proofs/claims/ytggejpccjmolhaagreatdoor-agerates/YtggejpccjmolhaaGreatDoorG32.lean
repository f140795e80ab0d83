/-
  One text: CChk, ACn, APr.
-/
import Derived.Test.YtggejpccjmolhaaGreatDoorCChT
import Derived.Test.YtggejpccjmolhaaGreatDoorG29
import Derived.Test.YtggejpccjmolhaaGreatDoorG31
import Derived.Test.YtggejpccjmolhaaGreatDoorG11
namespace Go.Proofs.YtggejpccjmolhaaGreatDoor
open Go.RowKit Plain
set_option linter.unusedVariables false
set_option linter.unusedSimpArgs false
set_option maxRecDepth 100000

theorem svs_ok {F : Nat → Prop} {a : Option Addr} {n c : Nat} {xs : List Pn} {w : World} (h : Ls 21 elPn w F a n c xs) (i : Nat) (hi : i < n) : ((svs xs).getD i ⟨0, 0, 0, 0⟩).ok := by
  have hil : i < xs.length := by rw [h.len]; exact hi
  have hx : xs[i]? = some xs[i] := List.getElem?_eq_getElem hil
  obtain ⟨b, o, cs, e, hb, hl, hr, hE⟩ := h.at' i _ hx
  have : (svs xs).getD i ⟨0, 0, 0, 0⟩ = pnSv xs[i] := by rw [List.getD, svs, List.getElem?_map, hx]; rfl
  rw [this]
  exact ⟨hE.ok.1, hE.ok.2.1, hE.ok.2.2.1, hE.ok.2.2.2.1⟩

set_option maxHeartbeats 4000000 in
theorem step3 (F : Nat → Prop) (a0 : Option Addr) (n0 c0 : Nat) (v1 v2 : Value) (xs : List Pn) (w : World) (hn : n0 ≤ 70000) (hL : Ls 21 elPn w F a0 n0 c0 xs) :
    Calls Tryz.prog 55 #[.agg #[.slice a0 n0 c0, v1, v2]] w fun e w' => e = .returned (fv (timF (svs xs) n0)) ∧ Kept No w w' := by
  have HK : Hid (Kept No w (w.alloc (.cells #[.slice a0 n0 c0, v1, v2] 26))) := (Kept.refl No w).alloc _
  have hc := psrv_any F a0 n0 c0 xs (w.alloc (.cells #[.slice a0 n0 c0, v1, v2] 26)) (lsPn_keep hL HK.out) hn
  have HO : Hid (∀ (v : Value) (w' : World) (B : Nat), w'.ownsRow B 50 4 v n0 (fl (svs xs)) → ∃ a c, v = .slice a n0 c ∧ ∀ w'', Kept No w' w'' → Calls Tryz.prog 56 #[.slice a n0 c] w'' fun e w3 => e = .returned (fv (timF (svs xs) n0)) ∧ Kept No w'' w3) := by
    intro v w' B ho
    obtain ⟨a, c, e, hs⟩ := own_sv ho (by rw [svs_len, hL.len]) (fun i hi => svs_ok hL i hi)
    exact ⟨a, c, e, fun w'' k => findTiming_any _ a n0 c (svs xs) w'' (hs.keep k)⟩
  clear hL
  generalize fl (svs xs) = L0 at *
  generalize timF (svs xs) n0 = z at *
  go_enter Tryz.func55, Tryz.ntmps55
  go_wp2_with (first
    | (go_at_call 57; refine hc.mono ?_; rintro e w1 ⟨v, rfl, ho, k1⟩; have K1 : Hid (Kept No w w1) := HK.out.trans k1 (fun _ h => h.elim); obtain ⟨a, c, rfl, hf⟩ := HO.out v w1 _ ho; have hc2 := hf w1 (Kept.refl No w1); clear hf ho k1)
    | (go_at_call 56; refine hc2.mono ?_; rintro e w2 ⟨rfl, k2⟩; have K2 : Hid (Kept No w w2) := K1.out.trans k2 (fun _ h => h.elim); clear k2))
  go_ret
  exact ⟨rfl, K2.out⟩

/-- the first of the steps that finds something -/
def firstF (s : Nat → Option (Int × Int)) : Nat → Option (Int × Int)
  | 0 => none
  | n + 1 => match firstF s n with
    | some p => some p
    | none => s n
theorem firstF_hit {s : Nat → Option (Int × Int)} {k : Nat} {p : Int × Int} (h : firstF s k = none) (he : s k = some p) : ∀ n, k < n → firstF s n = some p
  | 0, hn => by omega
  | n + 1, hn => by
    rcases Nat.lt_or_eq_of_le (Nat.lt_succ_iff.1 hn) with h1 | h1
    · rw [firstF, firstF_hit h he n h1]
    · subst h1; rw [firstF, h]; exact he
theorem firstF_miss {s : Nat → Option (Int × Int)} {k : Nat} (h : firstF s k = none) (he : s k = none) : firstF s (k + 1) = none := by rw [firstF, h]; exact he
theorem firstF_none {s : Nat → Option (Int × Int)} : ∀ {n : Nat}, firstF s n = none → ∀ i, i < n → s i = none
  | 0, _, i, hi => by omega
  | n + 1, h, i, hi => by
    cases hf : firstF s n with
    | some p => rw [firstF, hf] at h; cases h
    | none =>
      rcases Nat.lt_or_eq_of_le (Nat.lt_succ_iff.1 hi) with h1 | h1
      · exact firstF_none hf i h1
      · subst h1; rw [firstF, hf] at h; exact h

/-- the steps' functions -/
def fkS : Nat → Nat
  | 0 => 49
  | 1 => 52
  | 2 => 55
  | 3 => 58
  | 4 => 60
  | _ => 63
/-- what each of them finds -/
def stS (x : Im) : Nat → Option (Int × Int)
  | 0 => if x.parts.length ≤ 32 ∧ x.ports.length ≤ 64 ∧ x.chans.length ≤ 64 then none else some (100, 0)
  | 1 => eachF (fun i => rowsF (fun j => if bCn (x.parts.getD i dPn) j then 0 else 100) 6) 1 x.parts.length
  | 2 => timF (svs x.parts) x.parts.length
  | 3 => eachF (fun i => rowsF (ePt (x.parts.getD i dPn)) 9) 1 x.parts.length
  | 4 => eachF (fun i => rowsF (fun j => if bPo x.parts.length (x.ports.getD i ⟨0, 0, false, 0, 0, 0⟩) j then 0 else 107) 5) 1 x.ports.length
  | _ => eachF (fun i => rowsF (fun j => if bCh x.ports x.chans i j then 0 else 108) 8) 1 x.chans.length
def chkF (x : Im) : Option (Int × Int) := firstF (stS x) 6

theorem steps_any (w : World) : Calls Tryz.prog 42 #[] w fun e w' => ∃ tb, e = .returned (.slice (some ⟨tb, 0, none⟩) 6 6) ∧ (∀ j, j < 6 → w'.cell? ⟨tb, j, none⟩ = some (.func (.func (fkS j)) #[] #[])) ∧ Kept No w w' := by
  have HK : Hid (∀ o, Kept No w (w.alloc o)) := fun o => (Kept.refl No w).alloc o
  go_enter Tryz.func42, Tryz.ntmps42
  go_wp2
  go_ret
  refine ⟨w.heap.size, rfl, ?_, HK.out _⟩
  intro j hj
  match j, hj with
  | 0, _ => simp [fkS]
  | 1, _ => simp [fkS]
  | 2, _ => simp [fkS]
  | 3, _ => simp [fkS]
  | 4, _ => simp [fkS]
  | 5, _ => simp [fkS]
theorem fkS_enters : ∀ j, j < 6 → Enters Tryz.prog (fkS j) := by
  intro j hj
  match j, hj with
  | 0, _ => exact enters_of Tryz.func49 (by kernel_rfl) rfl
  | 1, _ => exact enters_of Tryz.func52 (by kernel_rfl) rfl
  | 2, _ => exact enters_of Tryz.func55 (by kernel_rfl) rfl
  | 3, _ => exact enters_of Tryz.func58 (by kernel_rfl) rfl
  | 4, _ => exact enters_of Tryz.func60 (by kernel_rfl) rfl
  | 5, _ => exact enters_of Tryz.func63 (by kernel_rfl) rfl
theorem step_any {F : Nat → Prop} {a0 : Option Addr} {n0 c0 : Nat} {a1 : Option Addr} {n1 c1 : Nat} {a2 : Option Addr} {n2 c2 : Nat} {x : Im} (w : World) (hg : Gl w) (h : Img w F a0 n0 c0 a1 n1 c1 a2 n2 c2 x) (j : Nat) (hj : j < 6) (hz : firstF (stS x) j = none) :
    Calls Tryz.prog (fkS j) #[.agg #[.slice a0 n0 c0, .slice a1 n1 c1, .slice a2 n2 c2]] w fun e w' => e = .returned (fv (stS x j)) ∧ Kept No w w' := by
  have l0 := h.ps.len
  have l1 := h.qs.len
  have l2 := h.cs.len
  have m0 := h.ps.max
  have m1 := h.qs.max
  have m2 := h.cs.max
  have q0 := h.ps.cap
  have q1 := h.qs.cap
  have q2 := h.cs.cap
  match j, hj, hz with
  | 0, _, _ => have := step1 a0 n0 c0 a1 n1 c1 a2 n2 c2 w (by omega) (by omega) (by omega); simp only [stS, l0, l1, l2]; exact this
  | 1, _, _ => have := step2 F a0 n0 c0 (.slice a1 n1 c1) (.slice a2 n2 c2) x.parts w h.ps; simp only [stS, l0]; exact this
  | 2, _, hz =>
    have h0 := firstF_none hz 0 (by omega)
    have : x.parts.length ≤ 32 := by
      simp only [stS] at h0
      split at h0
      · rename_i hc; exact hc.1
      · cases h0
    have := step3 F a0 n0 c0 (.slice a1 n1 c1) (.slice a2 n2 c2) x.parts w (by omega) h.ps
    simp only [stS, l0]; exact this
  | 3, _, _ => have := step4 F a0 n0 c0 (.slice a1 n1 c1) (.slice a2 n2 c2) x.parts w hg h.ps; simp only [stS, l0]; exact this
  | 4, _, _ => have := step5 F a0 n0 c0 a1 n1 c1 (.slice a2 n2 c2) x.ports w (by omega) h.qs; simp only [stS, l0, l1]; exact this
  | 5, _, _ => have := step6 F (.slice a0 n0 c0) a1 n1 c1 a2 n2 c2 x.ports x.chans w h.qs h.cs; simp only [stS, l2]; exact this

set_option maxHeartbeats 16000000 in
theorem check_any {F : Nat → Prop} {a0 : Option Addr} {n0 c0 : Nat} {a1 : Option Addr} {n1 c1 : Nat} {a2 : Option Addr} {n2 c2 : Nat} {x : Im} (w : World) (hg : Gl w) (h : Img w F a0 n0 c0 a1 n1 c1 a2 n2 c2 x) :
    Calls Tryz.prog 28 #[.agg #[.slice a0 n0 c0, .slice a1 n1 c1, .slice a2 n2 c2]] w fun e w' => e = .returned (.tuple #[.int .i64 (fe (chkF x)), .int .i64 (fn (chkF x))]) ∧ Kept No w w' := by
  have HI : Hid (∀ W, Kept No w W → ∀ j, j < 6 → firstF (stS x) j = none → Calls Tryz.prog (fkS j) #[.agg #[.slice a0 n0 c0, .slice a1 n1 c1, .slice a2 n2 c2]] W fun e w' => e = .returned (fv (stS x j)) ∧ Kept No W w') := fun W k j hj hz => step_any W (hg.kept k) (h.kept k (fun _ _ h => h)) j hj hz
  have HG : Hid (Gl w) := hg
  have K0 : Kept No w (w.alloc (.cells #[.slice a0 n0 c0, .slice a1 n1 c1, .slice a2 n2 c2] 26)) := (Kept.refl No w).alloc _
  have HM : Hid (∀ W, Kept No (w.alloc (.cells #[.slice a0 n0 c0, .slice a1 n1 c1, .slice a2 n2 c2] 26)) W → W.cell? ⟨w.heap.size, 0, none⟩ = some (.slice a0 n0 c0) ∧ W.cell? ⟨w.heap.size, 1, none⟩ = some (.slice a1 n1 c1) ∧ W.cell? ⟨w.heap.size, 2, none⟩ = some (.slice a2 n2 c2) ∧ Kept No w W) := fun W k => ⟨k.cell (by simp) (fun h => h), k.cell (by simp) (fun h => h), k.cell (by simp) (fun h => h), K0.trans k (fun _ h => h.elim)⟩
  have hs := steps_any (w.alloc (.cells #[.slice a0 n0 c0, .slice a1 n1 c1, .slice a2 n2 c2] 26))
  clear hg h K0
  obtain ⟨s, hse⟩ : ∃ s, s = stS x := ⟨_, rfl⟩
  unfold chkF
  rw [← hse] at HI ⊢
  clear hse
  obtain ⟨R, hR⟩ : ∃ R, firstF s 6 = R := ⟨_, rfl⟩
  rw [hR]
  have HR : Hid (firstF s 6 = R) := hR
  clear hR
  go_enter Tryz.func28, Tryz.ntmps28
  go_upto_region 1 with fail
  generalize hw0 : w.alloc (.cells #[.slice a0 n0 c0, .slice a1 n1 c1, .slice a2 n2 c2] 26) = w0 at *
  clear hw0
  go_wp2_with (go_at_call 42; refine hs.mono ?_; rintro e w1 ⟨tb, rfl, ht, k1⟩; have HT : Hid ((∀ j, j < 6 → w1.cell? ⟨tb, j, none⟩ = some (.func (.func (fkS j)) #[] #[])) ∧ Kept No w0 w1) := ⟨ht, k1⟩; clear ht k1)
  go_loopw [9] (fun i wr => ∃ k : Nat, k ≤ 6 ∧ i = .int .i64 k ∧ Kept No w1 wr ∧ firstF s k = none) (fun i _ => 6 - (intOf i).toNat)
  case atStart => exact ⟨0, by omega, rfl, Kept.refl _ _, rfl⟩
  case round =>
    obtain ⟨k, hk, rfl, K, hno⟩ := hrel
    by_cases hlt : k < 6
    · have hltz : (k : Int) < 6 := by omega
      have hc := K.cell (HT.out.1 k hlt) (fun h => h)
      have hen := fkS_enters k hlt
      have KA : Kept No w0 (wr.alloc (.cells #[.func (.func (fkS k)) #[] #[]] 90)) := (HT.out.2.trans K (fun _ h => h.elim)).alloc _
      obtain ⟨m0, m1, m2, KW⟩ := HM.out _ KA
      have cs := HI.out _ KW k hlt hno
      have HN : Hid (firstF s k = none) := hno
      have HKW : Hid (Kept No w1 (wr.alloc (.cells #[.func (.func (fkS k)) #[] #[]] 90)) ∧ Kept No w (wr.alloc (.cells #[.func (.func (fkS k)) #[] #[]] 90))) := ⟨K.alloc _, KW⟩
      unfold Enters at hen
      clear hno K KA KW
      generalize fkS k = g at *
      cases hsk : s k with
      | none =>
        have HF : Hid (firstF s (k + 1) = none) := firstF_miss HN.out hsk
        rw [hsk, show fv none = Value.nilIface from rfl] at cs
        clear hsk
        go_wp2_with (go_at_fn g; refine cs.mono ?_; rintro e w2 ⟨rfl, k2⟩)
        go_roundw
        case rel => exact ⟨k + 1, by omega, by go_num, HKW.out.1.trans k2 (fun _ h => h.elim), HF.out⟩
        case measure => simp [intOf]; omega
      | some p =>
        have HF : Hid (firstF s 6 = some p) := firstF_hit HN.out hsk 6 hlt
        obtain ⟨px, py⟩ := p
        rw [hsk, fv_some] at cs
        clear hsk
        go_wp2_with (first
          | (go_at_fn g; refine cs.mono ?_; rintro e w2 ⟨rfl, k2⟩; have HK2 : Hid (Kept No w w2) := HKW.out.2.trans k2 (fun _ h => h.elim); have ct := told_any (some (px, py)) w2 (HG.out.kept HK2.out); rw [fv_some] at ct; clear k2)
          | (go_at_call 43; refine ct.mono ?_; rintro e w3 ⟨rfl, k3⟩; have HK3 : Hid (Kept No w w3) := HK2.out.trans k3 (fun _ h => h.elim); clear k3))
        go_ret2
        exact ⟨by rw [← HR.out, HF.out]; rfl, HK3.out⟩
    · have hke : k = 6 := by omega
      subst hke
      have HN : Hid (firstF s 6 = none) := hno
      have HKW : Hid (Kept No w wr) := (HM.out _ (HT.out.2.trans K (fun _ h => h.elim))).2.2.2
      clear hno K
      go_wp2
      go_ret2
      exact ⟨by rw [← HR.out, HN.out]; rfl, HKW.out⟩
end Go.Proofs.YtggejpccjmolhaaGreatDoor

namespace Go.Proofs.YtggejpccjmolhaaGreatDoor
open Go.RowKit Plain
set_option linter.unusedVariables false
set_option linter.unusedSimpArgs false
set_option maxRecDepth 100000

def rcB (x : Pn) : Bool := decide ((x.sems.length : Int) ≤ 8) && (decide ((x.evs.length : Int) ≤ 8) && (decide ((x.bufs.length : Int) ≤ 8) && (inB x.wo 0 4096 && (decide ((x.code.length : Int) ≤ 1024) && inB x.procs.length 1 16))))
theorem rcB_rows (x : Pn) : rowsF (fun j => if bCn x j then 0 else 100) 6 = if rcB x then 0 else 100 := by
  have e0 : bCn x 0 = inB x.wo 0 4096 := rfl
  have e1 : bCn x 1 = decide ((x.code.length : Int) ≤ 1024) := rfl
  have e2 : bCn x 2 = inB x.procs.length 1 16 := rfl
  have e3 : bCn x 3 = decide ((x.sems.length : Int) ≤ 8) := rfl
  have e4 : bCn x 4 = decide ((x.evs.length : Int) ≤ 8) := rfl
  have e5 : bCn x 5 = decide ((x.bufs.length : Int) ≤ 8) := rfl
  unfold rcB
  rw [← e0, ← e1, ← e2, ← e3, ← e4, ← e5]
  simp only [rowsF]
  cases bCn x 0 <;> cases bCn x 1 <;> cases bCn x 2 <;> cases bCn x 3 <;> cases bCn x 4 <;> cases bCn x 5 <;> rfl

set_option maxHeartbeats 4000000 in
theorem rcounts_any {F : Nat → Prop} {w : World} {cs : List Value} {y : Pn} (hE : elPn w F cs y) :
    Calls Tryz.prog 15 #[.agg cs.toArray] w fun e w' => e = .returned (.bool (rcB y)) ∧ Kept No w w' := by
  obtain ⟨a0, n0, c0, a1, n1, c1, a2, n2, c2, a3, n3, c3, a4, n4, c4, a5, n5, c5, e, l0, l1, l2, l3, l4, l5⟩ := hE.sl
  have d4 := pn_cell w cs 59 4 (.int .i64 y.wo) (by rw [e]; rfl)
  have d7 := pn_cell w cs 59 7 (.slice a1 n1 c1) (by rw [e]; rfl)
  have d8 := pn_cell w cs 59 8 (.slice a2 n2 c2) (by rw [e]; rfl)
  have d18 := pn_cell w cs 59 18 (.slice a3 n3 c3) (by rw [e]; rfl)
  have d19 := pn_cell w cs 59 19 (.slice a4 n4 c4) (by rw [e]; rfl)
  have d20 := pn_cell w cs 59 20 (.slice a5 n5 c5) (by rw [e]; rfl)
  have HK : Hid (Kept No w (w.alloc (.cells cs.toArray 59))) := (Kept.refl No w).alloc _
  have m1 : n1 ≤ 9223372036854775807 := Nat.le_trans l1.cap l1.max
  have m2 : n2 ≤ 9223372036854775807 := Nat.le_trans l2.cap l2.max
  have m3 : n3 ≤ 9223372036854775807 := Nat.le_trans l3.cap l3.max
  have m4 : n4 ≤ 9223372036854775807 := Nat.le_trans l4.cap l4.max
  have m5 : n5 ≤ 9223372036854775807 := Nat.le_trans l5.cap l5.max
  unfold rcB
  rw [l1.len, l2.len, l3.len, l4.len, l5.len]
  clear hE e l0 l1 l2 l3 l4 l5
  generalize y.wo = wo at *
  by_cases g0 : (n3 : Int) ≤ 8
  · rw [decide_eq_true g0]
    by_cases g1 : (n4 : Int) ≤ 8
    · rw [decide_eq_true g1]
      by_cases g2 : (n5 : Int) ≤ 8
      · rw [decide_eq_true g2]
        cases g3 : inB wo 0 4096
        · skip
          go_enter Tryz.func15, Tryz.ntmps15
          go_wp2_with (go_at_call 29; refine (rwithin_any _ _ _ _).mono ?_; rintro e w' ⟨rfl, rfl⟩)
          go_ret
          exact ⟨by first | rfl | (simp [*]; done) | (congr 2; simp; omega), HK.out⟩
        · skip
          by_cases g4 : (n1 : Int) ≤ 1024
          · rw [decide_eq_true g4]
            go_enter Tryz.func15, Tryz.ntmps15
            go_wp2_with (go_at_call 29; refine (rwithin_any _ _ _ _).mono ?_; rintro e w' ⟨rfl, rfl⟩)
            go_ret
            exact ⟨by first | rfl | (simp [*]; done) | (congr 2; simp; omega), HK.out⟩
          · rw [decide_eq_false g4]
            go_enter Tryz.func15, Tryz.ntmps15
            go_wp2_with (go_at_call 29; refine (rwithin_any _ _ _ _).mono ?_; rintro e w' ⟨rfl, rfl⟩)
            go_ret
            exact ⟨by first | rfl | (simp [*]; done) | (congr 2; simp; omega), HK.out⟩
      · rw [decide_eq_false g2]
        go_enter Tryz.func15, Tryz.ntmps15
        go_wp2_with (go_at_call 29; refine (rwithin_any _ _ _ _).mono ?_; rintro e w' ⟨rfl, rfl⟩)
        go_ret
        exact ⟨by first | rfl | (simp [*]; done) | (congr 2; simp; omega), HK.out⟩
    · rw [decide_eq_false g1]
      go_enter Tryz.func15, Tryz.ntmps15
      go_wp2_with (go_at_call 29; refine (rwithin_any _ _ _ _).mono ?_; rintro e w' ⟨rfl, rfl⟩)
      go_ret
      exact ⟨by first | rfl | (simp [*]; done) | (congr 2; simp; omega), HK.out⟩
  · rw [decide_eq_false g0]
    go_enter Tryz.func15, Tryz.ntmps15
    go_wp2_with (go_at_call 29; refine (rwithin_any _ _ _ _).mono ?_; rintro e w' ⟨rfl, rfl⟩)
    go_ret
    exact ⟨by first | rfl | (simp [*]; done) | (congr 2; simp; omega), HK.out⟩
end Go.Proofs.YtggejpccjmolhaaGreatDoor

namespace Go.Proofs.YtggejpccjmolhaaGreatDoor
open Go.RowKit Plain
set_option linter.unusedVariables false
set_option linter.unusedSimpArgs false
set_option maxRecDepth 100000

def rpB (cl : Int) (z : Prc) : Bool := inB z.en 0 (cl - 1) && (inB z.pr 0 255 && (inB z.ca 0 2147483647 && (inB z.pe 0 1099511627775 && (inB z.li 0 1099511627775 && (z.pe == 0 || decide (z.li ≤ z.pe))))))
theorem rpB_rows {cl : Int} (z : Prc) (hc : 0 ≤ cl ∧ cl ≤ 9223372036854775807) : rowsF (fun j => if bPrc cl z j then 0 else 105) 6 = if rpB cl z then 0 else 105 := by
  have hw : wrap64 (cl - 1) = cl - 1 := by rw [← w64i]; exact IntWalk.i64_in _ ⟨by omega, by omega⟩
  have e0 : bPrc cl z 0 = inB z.en 0 (cl - 1) := by show inB z.en 0 (wrap64 (cl - 1)) = _; rw [hw]
  have e1 : bPrc cl z 1 = inB z.pr 0 255 := rfl
  have e2 : bPrc cl z 2 = inB z.pe 0 1099511627775 := rfl
  have e3 : bPrc cl z 3 = inB z.li 0 1099511627775 := rfl
  have e4 : bPrc cl z 4 = (z.pe == 0 || decide (z.li ≤ z.pe)) := rfl
  have e5 : bPrc cl z 5 = inB z.ca 0 2147483647 := rfl
  unfold rpB
  rw [← e0, ← e1, ← e2, ← e3, ← e4, ← e5]
  simp only [rowsF]
  cases bPrc cl z 0 <;> cases bPrc cl z 1 <;> cases bPrc cl z 2 <;> cases bPrc cl z 3 <;> cases bPrc cl z 4 <;> cases bPrc cl z 5 <;> rfl

set_option maxHeartbeats 4000000 in
theorem rproc_any {F : Nat → Prop} {w : World} {cs : List Value} {y : Pn} (z : Prc) (hE : elPn w F cs y) :
    Calls Tryz.prog 32 #[.agg cs.toArray, .agg #[.int .i64 z.en, .int .i64 z.pr, .int .i64 z.pe, .int .i64 z.li, .int .i64 z.ca, .bool z.auto]] w fun e w' => e = .returned (.bool (rpB y.code.length z)) ∧ Kept No w w' := by
  obtain ⟨a0, n0, c0, a1, n1, c1, a2, n2, c2, a3, n3, c3, a4, n4, c4, a5, n5, c5, e, l0, l1, l2, l3, l4, l5⟩ := hE.sl
  have d7 := pn_cell w cs 59 7 (.slice a1 n1 c1) (by rw [e]; rfl)
  have m1 : n1 ≤ 9223372036854775807 := Nat.le_trans l1.cap l1.max
  rw [l1.len]
  have HK : Hid (Kept No w ((w.alloc (.cells cs.toArray 59)).alloc (.cells #[.int .i64 z.en, .int .i64 z.pr, .int .i64 z.pe, .int .i64 z.li, .int .i64 z.ca, .bool z.auto] 69))) := ((Kept.refl No w).alloc _).alloc _
  clear hE e l0 l1 l2 l3 l4 l5
  have d7' := ((Kept.refl No _).alloc (.cells #[.int .i64 z.en, .int .i64 z.pr, .int .i64 z.pe, .int .i64 z.li, .int .i64 z.ca, .bool z.auto] 69)).cell d7 (fun h => h)
  clear d7
  obtain ⟨z0, z1, z2, z3, z4, z5⟩ := z
  unfold rpB
  simp only at HK d7' ⊢
  have hw : wrap64 ((n1 : Int) - 1) = (n1 : Int) - 1 := by rw [← w64i]; exact IntWalk.i64_in _ ⟨by omega, by omega⟩
  cases g0 : inB z0 0 ((n1 : Int) - 1)
  · skip
    go_enter Tryz.func32, Tryz.ntmps32
    go_wp2_with (go_at_call 29; refine (rwithin_any _ _ _ _).mono ?_; rintro e w' ⟨rfl, rfl⟩)
    go_ret
    exact ⟨by first | rfl | (simp [*]; done) | (congr 2; simp; omega), HK.out⟩
  · skip
    cases g1 : inB z1 0 255
    · skip
      go_enter Tryz.func32, Tryz.ntmps32
      go_wp2_with (go_at_call 29; refine (rwithin_any _ _ _ _).mono ?_; rintro e w' ⟨rfl, rfl⟩)
      go_ret
      exact ⟨by first | rfl | (simp [*]; done) | (congr 2; simp; omega), HK.out⟩
    · skip
      cases g2 : inB z4 0 2147483647
      · skip
        go_enter Tryz.func32, Tryz.ntmps32
        go_wp2_with (go_at_call 29; refine (rwithin_any _ _ _ _).mono ?_; rintro e w' ⟨rfl, rfl⟩)
        go_ret
        exact ⟨by first | rfl | (simp [*]; done) | (congr 2; simp; omega), HK.out⟩
      · skip
        cases g3 : inB z2 0 1099511627775
        · skip
          go_enter Tryz.func32, Tryz.ntmps32
          go_wp2_with (go_at_call 29; refine (rwithin_any _ _ _ _).mono ?_; rintro e w' ⟨rfl, rfl⟩)
          go_ret
          exact ⟨by first | rfl | (simp [*]; done) | (congr 2; simp; omega), HK.out⟩
        · skip
          cases g4 : inB z3 0 1099511627775
          · skip
            go_enter Tryz.func32, Tryz.ntmps32
            go_wp2_with (go_at_call 29; refine (rwithin_any _ _ _ _).mono ?_; rintro e w' ⟨rfl, rfl⟩)
            go_ret
            exact ⟨by first | rfl | (simp [*]; done) | (congr 2; simp; omega), HK.out⟩
          · skip
            by_cases h0 : z2 = 0
            · subst h0
              go_enter Tryz.func32, Tryz.ntmps32
              go_wp2_with (go_at_call 29; refine (rwithin_any _ _ _ _).mono ?_; rintro e w' ⟨rfl, rfl⟩)
              go_ret
              exact ⟨by first | rfl | (simp [*]; done) | (congr 2; simp; omega), HK.out⟩
            · have h1 : (z2 == 0) = false := by simpa using h0
              by_cases h2 : z3 ≤ z2
              · skip
                go_enter Tryz.func32, Tryz.ntmps32
                go_wp2_with (go_at_call 29; refine (rwithin_any _ _ _ _).mono ?_; rintro e w' ⟨rfl, rfl⟩)
                go_ret
                exact ⟨by first | rfl | (simp [*]; done) | (congr 2; simp; omega), HK.out⟩
              · skip
                go_enter Tryz.func32, Tryz.ntmps32
                go_wp2_with (go_at_call 29; refine (rwithin_any _ _ _ _).mono ?_; rintro e w' ⟨rfl, rfl⟩)
                go_ret
                exact ⟨by first | rfl | (simp [*]; done) | (congr 2; simp; omega), HK.out⟩
end Go.Proofs.YtggejpccjmolhaaGreatDoor
