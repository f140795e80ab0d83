/-
  proc: deadlines, jobs, what a timer does.
-/
import Derived.Test.YtofkacfchkimiaaPFind
import Derived.Deep.DeepCutAuto
namespace Go.Proofs.Ytofkacfchkimiaa
open Go.RowKit Plain
set_option linter.unusedVariables false
set_option maxRecDepth 100000

/-- num.Later -/
def ltr (t n : Int) : Int := if t < 0 ∨ 1099511627776 ≤ t ∨ n < 0 ∨ 1099511627776 - t ≤ n then -1 else t + n
theorem later_any (t n : Int) (w : World) : Calls Try.prog 66 #[.int .i64 t, .int .i64 n] w fun e w' => e = .returned (.int .i64 (ltr t n)) ∧ w' = w := by
  unfold ltr
  by_cases h1 : t < 0
  · rw [if_pos (.inl h1)]
    go_enter Try.func66, Try.ntmps66
    go_wp2
    go_ret
    exact ⟨rfl, rfl⟩
  · by_cases h2 : 1099511627776 ≤ t
    · rw [if_pos (.inr (.inl h2))]
      go_enter Try.func66, Try.ntmps66
      go_wp2
      go_ret
      exact ⟨rfl, rfl⟩
    · by_cases h3 : n < 0
      · rw [if_pos (.inr (.inr (.inl h3)))]
        go_enter Try.func66, Try.ntmps66
        go_wp2
        go_ret
        exact ⟨rfl, rfl⟩
      · by_cases h4 : 1099511627776 - t ≤ n
        · rw [if_pos (.inr (.inr (.inr h4)))]
          go_enter Try.func66, Try.ntmps66
          go_wp2
          go_ret
          exact ⟨rfl, rfl⟩
        · rw [if_neg (by omega)]
          go_enter Try.func66, Try.ntmps66
          go_wp2
          go_ret
          exact ⟨rfl, rfl⟩

/-- the deadline of a job that is released at a tick -/
def Pr.dlf (p : Pr) (now : Int) : Int := if p.lim ≤ 0 then -1 else ltr now p.lim
section
variable {b g cap : Nat} {T : Tt}
theorem deadline_any (w : World) (h : Tw w b g cap T) {i : Nat} (hi : i < T.n) (now : Int) :
    Calls Try.prog 65 #[.pointer (some ⟨g, i * 32, none⟩), .int .i64 now] w fun e w' => e = .returned (.int .i64 ((T.ps i).dlf now)) ∧ w' = w := by
  have c0 : w.cell? ⟨g, i * 32 + 31, none⟩ = some (.int .i64 (T.ps i).lim) := h.at' i hi 31 (by omega)
  clear h
  unfold Pr.dlf
  generalize (T.ps i).lim = s at *
  by_cases hs : s ≤ 0
  · rw [if_pos hs]
    go_enter Try.func65, Try.ntmps65
    go_wp2
    go_ret
    exact ⟨rfl, rfl⟩
  · rw [if_neg hs]
    have la := later_any now s w
    generalize ltr now s = x at *
    go_enter Try.func65, Try.ntmps65
    go_wp2_with (go_at_call 66; refine la.mono ?_; rintro e w' ⟨rfl, rfl⟩)
    go_ret
    exact ⟨rfl, rfl⟩

/-- a job begins -/
def Tt.job (T : Tt) (i : Nat) (now : Int) : Tt := (((T.enter i 1).at i (Pr.sRel now)).at i (fun p => p.sDl (p.dlf now))).at i (Pr.sLate false)
theorem enter_n (T : Tt) (i : Nat) (s : Int) : (T.enter i s).n = T.n := rfl
theorem job_tw (w : World) (h : Tw w b g cap T) {i : Nat} (hi : i < T.n) (hr : Rm T.pl) (now : Int) :
    Calls Try.prog 36 #[.pointer (some ⟨b, 0, none⟩), .pointer (some ⟨g, i * 32, none⟩), .int .i64 now] w fun e w' => (∃ v, e = .returned v) ∧ Tw w' b g cap (T.job i now) ∧ Kept (Bg b g) w w' := by
  have en := enter_tw w h hi hr 1
  have HT : Hid (T.job i now = (((T.enter i 1).at i (Pr.sRel now)).at i (fun p => p.sDl (p.dlf now))).at i (Pr.sLate false)) := rfl
  have hn : i < (T.enter i 1).n := hi
  generalize T.enter i 1 = U at *
  go_enter Try.func36, Try.ntmps36
  go_upto_region 1 with (go_at_call 39; refine en.mono ?_; rintro e w1 ⟨⟨v, rfl⟩, t1, k1⟩; clear en)
  have dl := deadline_any w1 t1 hn now
  have c5 : w1.cell? ⟨g, i * 32 + 20, none⟩ = some (.int .i64 (U.ps i).rel) := t1.at' i hn 20 (by omega)
  have c6 : w1.cell? ⟨g, i * 32 + 21, none⟩ = some (.int .i64 (U.ps i).dl) := t1.at' i hn 21 (by omega)
  have c8 : w1.cell? ⟨g, i * 32 + 23, none⟩ = some (.bool (U.ps i).late) := t1.at' i hn 23 (by omega)
  have f5 := t1.fg (i * 32 + 20)
  have f6 := t1.fg (i * 32 + 21)
  have f8 := t1.fg (i * 32 + 23)
  have HH : Hid (Tw w1 b g cap U ∧ Kept (Bg b g) w w1) := ⟨t1, k1⟩
  have HD : Hid ((U.ps i).dlf now = (U.ps i).dlf now) := rfl
  clear t1 k1 h
  generalize hx : (U.ps i).dlf now = x at *
  have HX : Hid ((U.ps i).dlf now = x) := hx
  clear hx
  generalize (U.ps i).rel = r0 at *
  generalize (U.ps i).dl = d0 at *
  generalize (U.ps i).late = l0 at *
  go_wp2_with (go_at_call 65; refine dl.mono ?_; rintro e w' ⟨rfl, rfl⟩)
  go_end0
  refine ⟨⟨_, rfl⟩, ?_, ((HH.out.2.setCell (.inl (.inr rfl)) _).setCell (.inl (.inr rfl)) _).setCell (.inl (.inr rfl)) _⟩
  rw [HT.out]
  have t2 := HH.out.1.sRel hn now
  have t3 := t2.sDl (show i < (U.at i (Pr.sRel now)).n from hn) x
  have e3 : (U.at i (Pr.sRel now)).at i (Pr.sDl x) = (U.at i (Pr.sRel now)).at i (fun p => p.sDl (p.dlf now)) := by
    unfold Tt.at
    congr 1
    funext y
    by_cases hy : y = i
    · subst hy
      simp only [if_true]
      rw [← HX.out]
      rfl
    · simp only [if_neg hy]
  rw [e3] at t3
  exact t3.sLate (show i < _ from hn) false
/-- roused -/
def Tt.rouse (T : Tt) (i : Nat) (r : Int) : Tt := (T.enter i 1).at i (Pr.sRg 0 r)
theorem rouse_tw (w : World) (h : Tw w b g cap T) {i : Nat} (hi : i < T.n) (hr : Rm T.pl) (r : Int) :
    Calls Try.prog 44 #[.pointer (some ⟨b, 0, none⟩), .pointer (some ⟨g, i * 32, none⟩), .int .i64 r] w fun e w' => (∃ v, e = .returned v) ∧ Tw w' b g cap (T.rouse i r) ∧ Kept (Bg b g) w w' := by
  have en := enter_tw w h hi hr 1
  have HT : Hid (T.rouse i r = (T.enter i 1).at i (Pr.sRg 0 r)) := rfl
  have hn : i < (T.enter i 1).n := hi
  generalize T.enter i 1 = U at *
  go_enter Try.func44, Try.ntmps44
  go_upto_region 1 with (go_at_call 39; refine en.mono ?_; rintro e w1 ⟨⟨v, rfl⟩, t1, k1⟩; clear en)
  have c5 : w1.cell? ⟨g, i * 32 + 3, none⟩ = some (.int .i64 ((U.ps i).rg 0)) := t1.at' i hn 3 (by omega)
  have f5 := t1.fg (i * 32 + 3)
  have HH : Hid (Tw w1 b g cap U ∧ Kept (Bg b g) w w1) := ⟨t1, k1⟩
  clear t1 k1 h
  generalize (U.ps i).rg 0 = r0 at *
  go_wp2
  go_end0
  refine ⟨⟨_, rfl⟩, ?_, HH.out.2.setCell (.inl (.inr rfl)) _⟩
  rw [HT.out]
  exact HH.out.1.sRg0 hn r
/-- a deadline is missed -/
def Tt.miss (T : Tt) (i : Nat) : Tt := (T.at i (fun p => p.sMis (p.mis + 1))).at i (Pr.sDl (-1))
theorem miss_tw (w : World) (h : Tw w b g cap T) {i : Nat} (hi : i < T.n) (hr : Rm (T.ps i).mis) (now : Int) :
    Calls Try.prog 67 #[.pointer (some ⟨b, 0, none⟩), .pointer (some ⟨g, i * 32, none⟩), .int .i64 now] w fun e w' => (∃ v, e = .returned v) ∧ Tw w' b g cap (T.miss i) ∧ Kept (Bg b g) w w' := by
  have c5 : w.cell? ⟨g, i * 32 + 27, none⟩ = some (.int .i64 (T.ps i).mis) := h.at' i hi 27 (by omega)
  have c6 : w.cell? ⟨g, i * 32 + 21, none⟩ = some (.int .i64 (T.ps i).dl) := h.at' i hi 21 (by omega)
  have f5 := h.fg (i * 32 + 27)
  have f6 := h.fg (i * 32 + 21)
  have t1 : Tw (w.setCell ⟨g, i * 32 + 27, none⟩ (.int .i64 ((T.ps i).mis + 1))) b g cap (T.at i (fun p => p.sMis (p.mis + 1))) :=
    h.put' (j := 27) hi (by omega) _ _ rfl (cell_cases (by simp [Pr.cell, Pr.sMis])) rfl rfl
  have HH : Hid (Tw w b g cap T ∧ Tw (w.setCell ⟨g, i * 32 + 27, none⟩ (.int .i64 ((T.ps i).mis + 1))) b g cap (T.at i (fun p => p.sMis (p.mis + 1)))) := ⟨h, t1⟩
  obtain ⟨r1, r2⟩ := hr
  clear h t1
  generalize (T.ps i).mis = m at *
  go_enter Try.func67, Try.ntmps67
  go_wp2
  go_end0
  exact ⟨⟨_, rfl⟩, HH.out.2.sDl (show i < (T.at i (fun p => p.sMis (p.mis + 1))).n from hi) (-1), ((Kept.refl _ w).setCell (.inl (.inr rfl)) _).setCell (.inl (.inr rfl)) _⟩
/-- the next job, or late -/
def Tt.release (T : Tt) (i : Nat) (now : Int) : Tt := if (T.ps i).st = 3 then (T.at i (Pr.sRg 0 0)).job i now else T.at i (Pr.sLate true)
theorem release_tw (w : World) (h : Tw w b g cap T) {i : Nat} (hi : i < T.n) (hr : Rm T.pl) (now : Int) :
    Calls Try.prog 68 #[.pointer (some ⟨b, 0, none⟩), .pointer (some ⟨g, i * 32, none⟩), .int .i64 now] w fun e w' => (∃ v, e = .returned v) ∧ Tw w' b g cap (T.release i now) ∧ Kept (Bg b g) w w' := by
  have c0 : w.cell? ⟨g, i * 32, none⟩ = some (.int .i64 (T.ps i).st) := h.at' i hi 0 (by omega)
  by_cases hs : (T.ps i).st = 3
  · have eT : T.release i now = (T.at i (Pr.sRg 0 0)).job i now := if_pos hs
    rw [hs] at c0
    rw [eT]
    have c3 : w.cell? ⟨g, i * 32 + 3, none⟩ = some (.int .i64 ((T.ps i).rg 0)) := h.at' i hi 3 (by omega)
    have f3 := h.fg (i * 32 + 3)
    have jb := job_tw _ (h.sRg0 hi 0) (show i < _ from hi) hr now
    have kk : Hid (Kept (Bg b g) w (w.setCell ⟨g, i * 32 + 3, none⟩ (.int .i64 0))) := (Kept.refl _ w).setCell (.inl (.inr rfl)) _
    clear h eT
    generalize (T.ps i).rg 0 = r0 at *
    generalize (T.at i (Pr.sRg 0 0)).job i now = U at *
    go_enter Try.func68, Try.ntmps68
    go_wp2_with (go_at_call 36; refine jb.mono ?_; rintro e w' ⟨⟨v, rfl⟩, t, k⟩; have Hh : Hid (Tw w' b g cap U ∧ Kept (Bg b g) w w') := ⟨t, kk.out.trans k (fun _ e => .inl e)⟩; clear t k jb kk)
    first | go_end0 | (refine bodyPost_ret (results_none rfl _ _ _) rfl ?_)
    exact ⟨⟨_, rfl⟩, Hh.out⟩
  · have eT : T.release i now = T.at i (Pr.sLate true) := if_neg hs
    rw [eT]
    have c3 : w.cell? ⟨g, i * 32 + 23, none⟩ = some (.bool (T.ps i).late) := h.at' i hi 23 (by omega)
    have f3 := h.fg (i * 32 + 23)
    have HH : Hid (Tw w b g cap T) := h
    clear h eT
    generalize (T.ps i).late = l0 at *
    generalize (T.ps i).st = s at *
    go_enter Try.func68, Try.ntmps68
    go_wp2
    first | go_end0 | (refine bodyPost_ret (results_none rfl _ _ _) rfl ?_)
    exact ⟨⟨_, rfl⟩, HH.out.sLate hi true, (Kept.refl _ w).setCell (.inl (.inr rfl)) _⟩
/-- a wait is over -/
def Tt.out (T : Tt) (i : Nat) : Tt := T.rouse i (if (T.ps i).st = 2 then 0 else 4)
theorem out_tw (w : World) (h : Tw w b g cap T) {i : Nat} (hi : i < T.n) (hr : Rm T.pl) (now : Int) :
    Calls Try.prog 69 #[.pointer (some ⟨b, 0, none⟩), .pointer (some ⟨g, i * 32, none⟩), .int .i64 now] w fun e w' => (∃ v, e = .returned v) ∧ Tw w' b g cap (T.out i) ∧ Kept (Bg b g) w w' := by
  have c0 : w.cell? ⟨g, i * 32, none⟩ = some (.int .i64 (T.ps i).st) := h.at' i hi 0 (by omega)
  unfold Tt.out
  by_cases hs : (T.ps i).st = 2
  · rw [if_pos hs]
    rw [hs] at c0
    have jb := rouse_tw w h hi hr 0
    clear h
    generalize T.rouse i 0 = U at *
    go_enter Try.func69, Try.ntmps69
    go_wp2_with (go_at_call 44; refine jb.mono ?_; rintro e w' ⟨⟨v, rfl⟩, t, k⟩; have Hh : Hid (Tw w' b g cap U ∧ Kept (Bg b g) w w') := ⟨t, k⟩; clear t k jb)
    first | go_end0 | (refine bodyPost_ret (results_none rfl _ _ _) rfl ?_)
    exact ⟨⟨_, rfl⟩, Hh.out⟩
  · rw [if_neg hs]
    have jb := rouse_tw w h hi hr 4
    clear h
    generalize T.rouse i 4 = U at *
    generalize (T.ps i).st = s at *
    go_enter Try.func69, Try.ntmps69
    go_wp2_with (go_at_call 44; refine jb.mono ?_; rintro e w' ⟨⟨v, rfl⟩, t, k⟩; have Hh : Hid (Tw w' b g cap U ∧ Kept (Bg b g) w w') := ⟨t, k⟩; clear t k jb)
    first | go_end0 | (refine bodyPost_ret (results_none rfl _ _ _) rfl ?_)
    exact ⟨⟨_, rfl⟩, Hh.out⟩
end
end Go.Proofs.Ytofkacfchkimiaa
