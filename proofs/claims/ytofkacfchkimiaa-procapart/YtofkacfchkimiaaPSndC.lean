/-
  ProcSound: the calls keep it (plain).
-/
import Derived.Test.YtofkacfchkimiaaPSndP
namespace Go.Proofs.Ytofkacfchkimiaa
open Go.RowKit Plain
set_option linter.unusedVariables false
set_option linter.unusedSimpArgs false
set_option maxRecDepth 100000

/-- a process that enters a state -/
def Pr.into (p : Pr) (s pl : Int) : Pr := { p with st := s, un := -1, ob := 0, ad := 0, da := .slice none 0 0, ws := [], pl := pl }
theorem enter_ps (T : Tt) (i : Nat) (s : Int) : (T.enter i s).ps i = (T.ps i).into s T.pl := by
  simp [Tt.enter, Tt.behind, Tt.at, Pr.sSt, Pr.sUn, Pr.sOb, Pr.sAd, Pr.sDa, Pr.sPl, Pr.into]
theorem enter_ot (T : Tt) {i x : Nat} (s : Int) (h : x ≠ i) : (T.enter i s).ps x = T.ps x := by
  simp [Tt.enter, Tt.behind, Tt.at, h]
theorem job_ps (T : Tt) (i : Nat) (now : Int) : (T.job i now).ps i = { (T.ps i).into 1 T.pl with rel := now, dl := (T.ps i).dlf now, late := false } := by
  unfold Tt.job
  simp only [Tt.at_same, enter_ps]
  rfl
theorem job_ot (T : Tt) {i x : Nat} (now : Int) (h : x ≠ i) : (T.job i now).ps x = T.ps x := by
  unfold Tt.job
  rw [Tt.at_other _ _ h, Tt.at_other _ _ h, Tt.at_other _ _ h, enter_ot _ _ h]
theorem above_in (p : Pr) (now : Int) : -1 ≤ p.above now ∧ p.above now < 1099511627776 := by
  unfold Pr.above
  split
  · rename_i h
    rw [Bool.and_eq_true] at h
    have := h.2
    unfold isT at this
    simp at this
    omega
  · omega
theorem if_some {T U : Tt} {p : Int} {c : Nat → Bool} {f : Nat → Tt} (h : T.if p c f = some U) : ∃ i, i < T.n ∧ c i = true ∧ U = f i := by
  rcases T.ix_cases p with hp | ⟨i, hi, rfl⟩
  · rw [Tt.if_out hp] at h; cases h
  · by_cases hc : c i = true
    · rw [Tt.if_yes hi f hc] at h
      injection h with h
      exact ⟨i, hi, hc, h.symm⟩
    · rw [Tt.if_not hi f hc] at h; cases h
theorem isT_in {t : Int} (h : isT t = true) : 0 ≤ t ∧ t < 1099511627776 := by
  unfold isT at h; simp at h; exact h
/-- what is left of it where a process enters a state and not much else is turned -/
theorem Ln.into {p : Pr} {pl : Int} {q M : Nat} (h : Ln p pl q M) (hpl : 1 ≤ pl) {s : Int} (hs : 1 ≤ s ∧ s ≤ 10) (hpri : 0 ≤ p.pri ∧ p.pri ≤ 255) : Ln (p.into s pl) (pl + 1) (q + 1) M :=
  ⟨by show 0 ≤ s ∧ s ≤ 10; omega, fun e => by have : s = 0 := e; omega, fun _ => ⟨rfl, rfl, rfl, .inl rfl⟩, fun _ => ⟨hpl, by show pl < pl + 1; omega, hpri.1, hpri.2⟩, by show 0 ≤ M; omega, by have := h.mis; show 0 ≤ p.mis ∧ p.mis ≤ _; omega, h.rel, h.pp, h.per, fun _ => by show -1 ≤ (-1 : Int) ∧ (-1 : Int) < _; omega⟩
theorem Ln.job {p : Pr} {pl : Int} {q M : Nat} (h : Ln p pl q M) (hpl : 1 ≤ pl) {now dl : Int} (hn : 0 ≤ now ∧ now < 1099511627776) (hpri : 0 ≤ p.pri ∧ p.pri ≤ 255) : Ln { p.into 1 pl with rel := now, dl := dl, late := false } (pl + 1) (q + 1) M :=
  ⟨by show 0 ≤ (1 : Int) ∧ (1 : Int) ≤ 10; omega, fun e => by have : (1 : Int) = 0 := e; omega, fun _ => ⟨rfl, rfl, rfl, .inl rfl⟩, fun _ => ⟨hpl, by show pl < pl + 1; omega, hpri.1, hpri.2⟩, by show 0 ≤ M; omega, by have := h.mis; show 0 ≤ p.mis ∧ p.mis ≤ _; omega, by show -1 ≤ now ∧ now < _; omega, h.pp, h.per, fun _ => by show -1 ≤ (-1 : Int) ∧ (-1 : Int) < _; omega⟩
section
variable {T U : Tt} {q M : Nat}
theorem sd_enter (h : Sd T q M) {i : Nat} (hi : i < T.n) {s : Int} (hs : 1 ≤ s ∧ s ≤ 10) (hst : (T.ps i).st ≠ 0) (hl : T.lk = (i : Int) + 1 → s = 1) : Sd (T.enter i s) (q + 1) M ∧ T.pl ≤ (T.enter i s).pl ∧ (T.enter i s).n = T.n ∧ (T.enter i s).hd = T.hd := by
  have aw := (h.each i hi).awake hst
  refine h.call hi (fun x hx => enter_ot T s hx) rfl rfl rfl (by show T.pl ≤ T.pl + 1 ∧ T.pl + 1 ≤ T.pl + 1; omega) ?_ (fun _ => .inl ⟨by rw [enter_ps]; rfl, rfl⟩) (.inl ⟨rfl, fun e => by rw [enter_ps]; exact hl e⟩)
  rw [enter_ps]
  exact (h.each i hi).into h.pl.1 hs ⟨aw.2.2.1, aw.2.2.2⟩
theorem sd_start (h : Sd T q M) {p now x y z : Int} (e : T.cStart p now x y z = some U) : Sd U (q + 1) M ∧ T.pl ≤ U.pl ∧ U.n = T.n ∧ U.hd = T.hd := by
  obtain ⟨i, hi, hc, rfl⟩ := if_some e
  simp at hc
  obtain ⟨hs, ht⟩ := hc
  have ht := isT_in ht
  have L := h.each i hi
  have ep : (T.start i now x y z).ps i = { (({ T.ps i with pri := (T.ps i).pp, pc := (T.ps i).en, rg := rg3 x y z } : Pr).into 1 T.pl) with rel := now, dl := (T.ps i).dlf now, late := false } := by
    unfold Tt.start
    rw [job_ps]
    simp only [Tt.at_same]
    rfl
  refine h.call hi (fun x hx => by unfold Tt.start; rw [job_ot _ _ hx, Tt.at_other _ _ hx, Tt.at_other _ _ hx, Tt.at_other _ _ hx]) rfl rfl rfl (by show T.pl ≤ T.pl + 1 ∧ T.pl + 1 ≤ T.pl + 1; omega) ?_ (fun _ => .inl ⟨by rw [ep]; rfl, rfl⟩) (.inl ⟨rfl, fun _ => by rw [ep]; rfl⟩)
  rw [ep]
  refine ⟨by show 0 ≤ (1 : Int) ∧ (1 : Int) ≤ 10; omega, fun e => by have : (1 : Int) = 0 := e; omega, fun _ => ⟨rfl, rfl, rfl, .inl rfl⟩, fun _ => ⟨h.pl.1, by show T.pl < T.pl + 1; omega, L.pp.1, L.pp.2⟩, by show 0 ≤ M; omega, by have := L.mis; show 0 ≤ (T.ps i).mis ∧ (T.ps i).mis ≤ _; omega, by show -1 ≤ now ∧ now < _; omega, L.pp, L.per, fun _ => by show -1 ≤ (-1 : Int) ∧ (-1 : Int) < _; omega⟩
theorem sd_stop (h : Sd T q M) {p : Int} (e : T.cStop p = some U) : Sd U (q + 1) M ∧ T.pl ≤ U.pl ∧ U.n = T.n ∧ U.hd = T.hd := by
  obtain ⟨i, hi, hc, rfl⟩ := if_some e
  have L := h.each i hi
  have ep : (T.stop i).ps i = (T.ps i).ends := by
    unfold Tt.stop
    split
    · exact Tt.at_same _ _ _
    · exact Tt.at_same _ _ _
  have eo : ∀ x, x ≠ i → (T.stop i).ps x = T.ps x := fun x hx => by
    unfold Tt.stop
    split
    · exact Tt.at_other _ _ hx
    · exact Tt.at_other _ _ hx
  have epl : (T.stop i).pl = T.pl := by unfold Tt.stop; split <;> rfl
  have en : (T.stop i).n = T.n := by unfold Tt.stop; split <;> rfl
  have ec : (T.stop i).cd = T.cd := by unfold Tt.stop; split <;> rfl
  have eh : (T.stop i).hd = T.hd := by unfold Tt.stop; split <;> rfl
  refine h.call hi eo en ec eh (by rw [epl]; omega) ?_ (fun e => absurd (by rw [ep]; rfl) e) ?_
  · rw [ep]
    exact ⟨by show 0 ≤ (0 : Int) ∧ (0 : Int) ≤ 10; omega, fun _ => ⟨rfl, rfl, rfl, rfl, rfl, rfl, rfl, rfl, rfl, rfl, fun _ _ => rfl⟩, fun _ => ⟨rfl, rfl, rfl, .inl rfl⟩, fun e => absurd rfl e, by show 0 ≤ M; omega, by have := L.mis; show 0 ≤ (T.ps i).mis ∧ (T.ps i).mis ≤ _; omega, by show -1 ≤ (-1 : Int) ∧ (-1 : Int) < _; omega, L.pp, L.per, fun _ => by show -1 ≤ (-1 : Int) ∧ (-1 : Int) < _; omega⟩
  · by_cases hl : T.lk = (i : Int) + 1
    · exact .inr (by unfold Tt.stop; rw [if_pos hl]; rfl)
    · exact .inl ⟨by unfold Tt.stop; rw [if_neg hl]; rfl, fun e => absurd e hl⟩
theorem free_in {i : Nat} (h : T.free i = true) : (T.ps i).st = 1 ∧ T.lk ≠ (i : Int) + 1 := by unfold Tt.free at h; simpa using h
theorem rdy_in {i : Nat} (h : T.rdy i = true) : (T.ps i).st = 1 := by unfold Tt.rdy at h; simpa using h
theorem sd_suspend (h : Sd T q M) {p : Int} (e : T.cSuspend p = some U) : Sd U (q + 1) M ∧ T.pl ≤ U.pl ∧ U.n = T.n ∧ U.hd = T.hd := by
  obtain ⟨i, hi, hc, rfl⟩ := if_some e
  rw [Bool.and_eq_true] at hc
  obtain ⟨h1, h2⟩ := free_in hc.1
  exact sd_enter h hi (by omega) (by omega) (fun e => absurd e h2)
theorem sd_resume (h : Sd T q M) {p : Int} (e : T.cResume p = some U) : Sd U (q + 1) M ∧ T.pl ≤ U.pl ∧ U.n = T.n ∧ U.hd = T.hd := by
  obtain ⟨i, hi, hc, rfl⟩ := if_some e
  have hs : (T.ps i).st = 10 := by simpa using hc
  exact sd_enter h hi (by omega) (by omega) (fun _ => rfl)
theorem sd_lock (h : Sd T q M) {p : Int} (e : T.cLock p = some U) : Sd U (q + 1) M ∧ T.pl ≤ U.pl ∧ U.n = T.n ∧ U.hd = T.hd := by
  obtain ⟨i, hi, hc, rfl⟩ := if_some e
  rw [Bool.and_eq_true] at hc
  have h1 := rdy_in hc.1
  have h2 : T.hd ≠ (i : Int) + 1 ∧ T.lk = 0 := by simpa using hc.2
  have hh := h.up (Nat.le_succ q)
  exact ⟨⟨hh.each, hh.apart, .inr ⟨i, hi, rfl, h1, h2.1⟩, hh.hd, hh.pl⟩, Int.le_refl _, rfl, rfl⟩
theorem sd_unlock (h : Sd T q M) {p : Int} (e : T.cUnlock p = some U) : Sd U (q + 1) M ∧ T.pl ≤ U.pl ∧ U.n = T.n ∧ U.hd = T.hd := by
  obtain ⟨i, hi, hc, rfl⟩ := if_some e
  have hh := h.up (Nat.le_succ q)
  exact ⟨⟨hh.each, hh.apart, .inl rfl, hh.hd, hh.pl⟩, Int.le_refl _, rfl, rfl⟩
theorem sd_behind (h : Sd T q M) {i : Nat} (hi : i < T.n) (f : Pr → Pr) (hf : ∀ p, (f p).st = p.st ∧ (f p).rel = p.rel ∧ (f p).dl = p.dl ∧ (f p).un = p.un ∧ (f p).ob = p.ob ∧ (f p).ad = p.ad ∧ (f p).ws = p.ws ∧ (f p).mis = p.mis ∧ (f p).pp = p.pp ∧ (f p).per = p.per) (hs : (T.ps i).st ≠ 0) (hpri : 0 ≤ (f (T.ps i)).pri ∧ (f (T.ps i)).pri ≤ 255) : Sd ((T.at i f).behind i) (q + 1) M ∧ T.pl ≤ ((T.at i f).behind i).pl ∧ ((T.at i f).behind i).n = T.n ∧ ((T.at i f).behind i).hd = T.hd := by
  have L := h.each i hi
  obtain ⟨f1, f2, f3, f4, f5, f6, f7, f8, f9, f10⟩ := hf (T.ps i)
  have ep : ((T.at i f).behind i).ps i = (f (T.ps i)).sPl T.pl := by
    unfold Tt.behind
    show ((T.at i f).at i _).ps i = _
    rw [Tt.at_same, Tt.at_same]
    rfl
  refine h.call hi (fun x hx => by unfold Tt.behind; show ((T.at i f).at i _).ps x = _; rw [Tt.at_other _ _ hx, Tt.at_other _ _ hx]) rfl rfl rfl (by show T.pl ≤ T.pl + 1 ∧ T.pl + 1 ≤ T.pl + 1; omega) ?_ (fun _ => .inl ⟨by rw [ep]; rfl, rfl⟩) (.inl ⟨rfl, fun e => ?_⟩)
  · rw [ep]
    refine ⟨by show 0 ≤ (f (T.ps i)).st ∧ (f (T.ps i)).st ≤ 10; rw [f1]; exact L.st, fun e => absurd (f1.symm.trans e) hs, fun e => ?_, fun _ => ⟨h.pl.1, by show T.pl < T.pl + 1; omega, hpri.1, hpri.2⟩, by show (f (T.ps i)).ws.length ≤ M; rw [f7]; exact L.ws, by have := L.mis; show 0 ≤ (f (T.ps i)).mis ∧ (f (T.ps i)).mis ≤ _; rw [f8]; omega, by show -1 ≤ (f (T.ps i)).rel ∧ (f (T.ps i)).rel < _; rw [f2]; exact L.rel, by show 0 ≤ (f (T.ps i)).pp ∧ (f (T.ps i)).pp ≤ _; rw [f9]; exact L.pp, by show 0 ≤ (f (T.ps i)).per ∧ (f (T.ps i)).per < _; rw [f10]; exact L.per, fun e => by show -1 ≤ (f (T.ps i)).un ∧ (f (T.ps i)).un < _; rw [f4]; exact L.un3 (f1.symm.trans e)⟩
    have e' : (f (T.ps i)).st = 1 ∨ (f (T.ps i)).st = 10 ∨ (f (T.ps i)).st = 3 := e
    rw [f1] at e'
    obtain ⟨a, b, c, d⟩ := L.idle e'
    exact ⟨f5.trans a, f6.trans b, f7.trans c, by show (f (T.ps i)).un = _ ∨ (f (T.ps i)).st = _; rw [f4, f1]; exact d⟩
  · rw [ep]
    show (f (T.ps i)).st = 1
    rw [f1]
    rcases h.lock with e0 | ⟨x, hx, e3, e4, e5⟩
    · omega
    · have : x = i := by omega
      subst this; exact e4
/-- the same without a new place -/
theorem sd_at (h : Sd T q M) {i : Nat} (hi : i < T.n) (f : Pr → Pr) (hf : ∀ p, (f p).st = p.st ∧ (f p).pl = p.pl ∧ (f p).un = p.un ∧ (f p).ob = p.ob ∧ (f p).ad = p.ad ∧ (f p).ws = p.ws ∧ (f p).pp = p.pp ∧ (f p).per = p.per) (hs : (T.ps i).st ≠ 0) (hpri : 0 ≤ (f (T.ps i)).pri ∧ (f (T.ps i)).pri ≤ 255) (hm : 0 ≤ (f (T.ps i)).mis ∧ (f (T.ps i)).mis ≤ (T.ps i).mis + 1) (hr : -1 ≤ (f (T.ps i)).rel ∧ (f (T.ps i)).rel < 1099511627776) : Sd (T.at i f) (q + 1) M ∧ T.pl ≤ (T.at i f).pl ∧ (T.at i f).n = T.n ∧ (T.at i f).hd = T.hd := by
  have L := h.each i hi
  have aw := L.awake hs
  obtain ⟨f1, f2, f3, f4, f5, f6, f7, f8⟩ := hf (T.ps i)
  have ep : (T.at i f).ps i = f (T.ps i) := Tt.at_same _ _ _
  refine h.call hi (fun x hx => Tt.at_other _ _ hx) rfl rfl rfl (by show T.pl ≤ T.pl ∧ T.pl ≤ T.pl + 1; omega) ?_ (fun _ => .inr ⟨by rw [ep]; exact f2, hs⟩) (.inl ⟨rfl, fun e => ?_⟩)
  · rw [ep]
    refine ⟨by rw [f1]; exact L.st, fun e => absurd (f1.symm.trans e) hs, fun e => ?_, fun _ => ⟨by rw [f2]; exact aw.1, by rw [f2]; exact aw.2.1, hpri.1, hpri.2⟩, by rw [f6]; exact L.ws, by have := L.mis; omega, hr, by rw [f7]; exact L.pp, by rw [f8]; exact L.per, fun e => by rw [f3]; exact L.un3 (f1.symm.trans e)⟩
    rw [f1] at e
    obtain ⟨a, b, c, d⟩ := L.idle e
    exact ⟨f4.trans a, f5.trans b, f6.trans c, by rw [f3, f1]; exact d⟩
  · rw [ep, f1]
    rcases h.lock with e0 | ⟨x, hx, e3, e4, e5⟩
    · omega
    · have : x = i := by omega
      subst this; exact e4
theorem sd_prio (h : Sd T q M) {p x : Int} (e : T.cPrio p x = some U) : Sd U (q + 1) M ∧ T.pl ≤ U.pl ∧ U.n = T.n ∧ U.hd = T.hd := by
  obtain ⟨i, hi, hc, rfl⟩ := if_some e
  have hc' : (T.ps i).st ≠ 0 ∧ 0 ≤ x ∧ x ≤ 255 := by simpa using hc
  have L := h.each i hi
  unfold Tt.prio
  split
  · exact sd_behind h hi (Pr.sPri x) (fun p => ⟨rfl, rfl, rfl, rfl, rfl, rfl, rfl, rfl, rfl, rfl⟩) hc'.1 hc'.2
  · exact sd_at h hi (Pr.sPri x) (fun p => ⟨rfl, rfl, rfl, rfl, rfl, rfl, rfl, rfl⟩) hc'.1 hc'.2 (by have := L.mis; show 0 ≤ (T.ps i).mis ∧ (T.ps i).mis ≤ _; omega) L.rel
theorem sd_yield (h : Sd T q M) {p : Int} (e : T.cYield p = some U) : Sd U (q + 1) M ∧ T.pl ≤ U.pl ∧ U.n = T.n ∧ U.hd = T.hd := by
  obtain ⟨i, hi, hc, rfl⟩ := if_some e
  have h1 := rdy_in hc
  have L := h.each i hi
  have aw := L.awake (by omega)
  have := sd_behind h hi (fun p => p) (fun p => ⟨rfl, rfl, rfl, rfl, rfl, rfl, rfl, rfl, rfl, rfl⟩) (by omega) ⟨aw.2.2.1, aw.2.2.2⟩
  rw [show T.at i (fun p => p) = T from Tt.ext' (fun x => by show (if _ then _ else _) = _; split <;> rfl) rfl rfl rfl rfl rfl] at this
  exact this
theorem sd_set (h : Sd T q M) {p : Int} {f : Nat → Int} {pc : Int} (e : T.cSet p f pc = some U) : Sd U (q + 1) M ∧ T.pl ≤ U.pl ∧ U.n = T.n ∧ U.hd = T.hd := by
  obtain ⟨i, hi, hc, rfl⟩ := if_some e
  rw [Bool.and_eq_true] at hc
  have h1 := rdy_in hc.1
  have L := h.each i hi
  have aw := L.awake (by omega)
  have := sd_at h hi (fun p => (p.sRgs f).sPc pc) (fun p => ⟨rfl, rfl, rfl, rfl, rfl, rfl, rfl, rfl⟩) (by omega) ⟨aw.2.2.1, aw.2.2.2⟩ (by have := L.mis; show 0 ≤ (T.ps i).mis ∧ (T.ps i).mis ≤ _; omega) L.rel
  rw [show T.at i (fun p => (p.sRgs f).sPc pc) = T.set i f pc from Tt.ext' (fun x => by
    by_cases e : x = i
    · subst e; unfold Tt.set; rw [Tt.at_same, Tt.at_same, Tt.at_same]
    · unfold Tt.set; rw [Tt.at_other _ _ e, Tt.at_other _ _ e, Tt.at_other _ _ e]) rfl rfl rfl rfl rfl] at this
  exact this
theorem sd_wait (h : Sd T q M) {p s un ob ad : Int} {v : Value} {xs : List Int} (hx : xs.length ≤ M) (e : T.cWait p s un ob ad v xs = some U) : Sd U (q + 1) M ∧ T.pl ≤ U.pl ∧ U.n = T.n ∧ U.hd = T.hd := by
  obtain ⟨i, hi, hc, rfl⟩ := if_some e
  rw [Bool.and_eq_true, Bool.and_eq_true] at hc
  obtain ⟨⟨h0, h2⟩, h3⟩ := hc
  obtain ⟨h1, hl⟩ := free_in h0
  have hs : s = 2 ∨ (4 ≤ s ∧ s ≤ 9) := by simpa [fw] using h2
  have L := h.each i hi
  have aw := L.awake (by omega)
  have ep : (T.wait i s un ob ad v xs).ps i = { (T.ps i).into s T.pl with un := un, ob := ob, ad := ad, da := v, ws := xs } := by
    unfold Tt.wait
    simp only [Tt.at_same, enter_ps]
    rfl
  refine h.call hi (fun x hx => by unfold Tt.wait; rw [Tt.at_other _ _ hx, Tt.at_other _ _ hx, Tt.at_other _ _ hx, Tt.at_other _ _ hx, enter_ot _ _ hx]) rfl rfl rfl (by show T.pl ≤ T.pl + 1 ∧ T.pl + 1 ≤ T.pl + 1; omega) ?_ (fun _ => .inl ⟨by rw [ep]; rfl, rfl⟩) (.inl ⟨rfl, fun e => absurd e hl⟩)
  rw [ep]
  exact ⟨by show 0 ≤ s ∧ s ≤ 10; omega, fun e => by have : s = 0 := e; omega, fun e => by have : s = 1 ∨ s = 10 ∨ s = 3 := e; omega, fun _ => ⟨h.pl.1, by show T.pl < T.pl + 1; omega, aw.2.2.1, aw.2.2.2⟩, hx, by have := L.mis; show 0 ≤ (T.ps i).mis ∧ (T.ps i).mis ≤ _; omega, L.rel, L.pp, L.per, fun e => by have : s = 3 := e; omega⟩
theorem sd_period (h : Sd T q M) {p now : Int} (e : T.cPeriod p now = some U) : Sd U (q + 1) M ∧ T.pl ≤ U.pl ∧ U.n = T.n ∧ U.hd = T.hd := by
  obtain ⟨i, hi, hc, rfl⟩ := if_some e
  rw [Bool.and_eq_true] at hc
  obtain ⟨h1, hl⟩ := free_in hc.1
  have L := h.each i hi
  have aw := L.awake (by omega)
  have ep : (T.period i now).ps i = { (T.ps i).into 3 T.pl with dl := -1, un := ((T.ps i).into 3 T.pl |>.sDl (-1)).above now } := by
    unfold Tt.period
    simp only [Tt.at_same, enter_ps]
    rfl
  refine h.call hi (fun x hx => by unfold Tt.period; rw [Tt.at_other _ _ hx, Tt.at_other _ _ hx, enter_ot _ _ hx]) rfl rfl rfl (by show T.pl ≤ T.pl + 1 ∧ T.pl + 1 ≤ T.pl + 1; omega) ?_ (fun _ => .inl ⟨by rw [ep]; rfl, rfl⟩) (.inl ⟨rfl, fun e => absurd e hl⟩)
  rw [ep]
  exact ⟨by show 0 ≤ (3 : Int) ∧ (3 : Int) ≤ 10; omega, fun e => by have : (3 : Int) = 0 := e; omega, fun e => ⟨rfl, rfl, rfl, .inr rfl⟩, fun _ => ⟨h.pl.1, by show T.pl < T.pl + 1; omega, aw.2.2.1, aw.2.2.2⟩, by show 0 ≤ M; omega, by have := L.mis; show 0 ≤ (T.ps i).mis ∧ (T.ps i).mis ≤ _; omega, L.rel, L.pp, L.per, fun _ => above_in _ now⟩
theorem sd_rouse (h : Sd T q M) {i : Nat} (hi : i < T.n) (hs : (T.ps i).st ≠ 0) (r : Int) : Sd (T.rouse i r) (q + 1) M ∧ T.pl ≤ (T.rouse i r).pl ∧ (T.rouse i r).n = T.n ∧ (T.rouse i r).hd = T.hd := by
  have L := h.each i hi
  have aw := L.awake hs
  have ep : (T.rouse i r).ps i = ((T.ps i).into 1 T.pl).sRg 0 r := by
    unfold Tt.rouse
    rw [Tt.at_same, enter_ps]
  refine h.call hi (fun x hx => by unfold Tt.rouse; rw [Tt.at_other _ _ hx, enter_ot _ _ hx]) rfl rfl rfl (by show T.pl ≤ T.pl + 1 ∧ T.pl + 1 ≤ T.pl + 1; omega) ?_ (fun _ => .inl ⟨by rw [ep]; rfl, rfl⟩) (.inl ⟨rfl, fun _ => by rw [ep]; rfl⟩)
  rw [ep]
  exact ⟨by show 0 ≤ (1 : Int) ∧ (1 : Int) ≤ 10; omega, fun e => by have : (1 : Int) = 0 := e; omega, fun e => ⟨rfl, rfl, rfl, .inl rfl⟩, fun _ => ⟨h.pl.1, by show T.pl < T.pl + 1; omega, aw.2.2.1, aw.2.2.2⟩, by show 0 ≤ M; omega, by have := L.mis; show 0 ≤ (T.ps i).mis ∧ (T.ps i).mis ≤ _; omega, L.rel, L.pp, L.per, fun _ => by show -1 ≤ (-1 : Int) ∧ (-1 : Int) < _; omega⟩
theorem wk_in {p : Pr} (h : p.wk = true) : p.st ≠ 0 ∧ p.st ≠ 1 ∧ p.st ≠ 3 := by
  unfold Pr.wk at h; simp at h; exact ⟨h.1.1, h.1.2, h.2⟩
theorem sd_wake (h : Sd T q M) {p r : Int} (e : T.cWake p r = some U) : Sd U (q + 1) M ∧ T.pl ≤ U.pl ∧ U.n = T.n ∧ U.hd = T.hd := by
  obtain ⟨i, hi, hc, rfl⟩ := if_some e
  exact sd_rouse h hi (wk_in hc).1 r
theorem sd_fire (h : Sd T q M) {p kind now : Int} (e : T.cFire p kind now = some U) : Sd U (q + 1) M ∧ T.pl ≤ U.pl ∧ U.n = T.n ∧ U.hd = T.hd := by
  obtain ⟨i, hi, hc, rfl⟩ := if_some e
  have L := h.each i hi
  unfold Pr.due at hc
  rw [Bool.and_eq_true] at hc
  have hn1 : now ≠ -1 := by simpa using hc.1
  have htk : (T.ps i).tk kind = now := by simpa using hc.2
  have hs : (T.ps i).st ≠ 0 := by
    intro e
    have hw : (T.ps i).wk = false := by unfold Pr.wk; rw [e]; rfl
    have t0 : (T.ps i).tk kind = -1 := by
      unfold Pr.tk Pr.tkD Pr.tkR Pr.tkW
      rw [if_pos e, if_pos e, hw]
      by_cases a1 : kind = 1
      · rw [if_pos a1]
      · rw [if_neg a1]
        by_cases a2 : kind = 2
        · rw [if_pos a2]
        · rw [if_neg a2]
          by_cases a3 : kind = 3
          · rw [if_pos a3]; rfl
          · rw [if_neg a3]
    exact hn1 (htk.symm.trans t0)
  have aw := L.awake hs
  unfold Tt.fire
  by_cases k1 : kind = 1
  · rw [if_pos k1]
    have := sd_at h hi (fun p => (p.sMis (p.mis + 1)).sDl (-1)) (fun p => ⟨rfl, rfl, rfl, rfl, rfl, rfl, rfl, rfl⟩) hs ⟨aw.2.2.1, aw.2.2.2⟩ (by have := L.mis; show 0 ≤ (T.ps i).mis + 1 ∧ (T.ps i).mis + 1 ≤ _; omega) L.rel
    rw [show T.at i (fun p => (p.sMis (p.mis + 1)).sDl (-1)) = T.miss i from Tt.ext' (fun x => by
      by_cases e : x = i
      · subst e; unfold Tt.miss; rw [Tt.at_same, Tt.at_same, Tt.at_same]
      · unfold Tt.miss; rw [Tt.at_other _ _ e, Tt.at_other _ _ e, Tt.at_other _ _ e]) rfl rfl rfl rfl rfl] at this
    exact this
  · rw [if_neg k1]
    by_cases k2 : kind = 2
    · rw [if_pos k2]
      unfold Tt.release
      by_cases h3 : (T.ps i).st = 3
      · rw [if_pos h3]
        have hu := L.un3 h3
        have hnow : 0 ≤ now ∧ now < 1099511627776 := by
          unfold Pr.tk at htk
          rw [if_neg k1, if_pos k2] at htk
          unfold Pr.tkR at htk
          rw [if_neg hs, if_pos h3] at htk
          omega
        have ep : ((T.at i (Pr.sRg 0 0)).job i now).ps i = { (((T.ps i).sRg 0 0).into 1 T.pl) with rel := now, dl := (T.ps i).dlf now, late := false } := by
          rw [job_ps, Tt.at_same]
          rfl
        refine h.call hi (fun x hx => by rw [job_ot _ _ hx, Tt.at_other _ _ hx]) rfl rfl rfl (by show T.pl ≤ T.pl + 1 ∧ T.pl + 1 ≤ T.pl + 1; omega) ?_ (fun _ => .inl ⟨by rw [ep]; rfl, rfl⟩) (.inl ⟨rfl, fun _ => by rw [ep]; rfl⟩)
        rw [ep]
        exact ⟨by show 0 ≤ (1 : Int) ∧ (1 : Int) ≤ 10; omega, fun e => by have : (1 : Int) = 0 := e; omega, fun e => ⟨rfl, rfl, rfl, .inl rfl⟩, fun _ => ⟨h.pl.1, by show T.pl < T.pl + 1; omega, aw.2.2.1, aw.2.2.2⟩, by show 0 ≤ M; omega, by have := L.mis; show 0 ≤ (T.ps i).mis ∧ (T.ps i).mis ≤ _; omega, by show -1 ≤ now ∧ now < _; omega, L.pp, L.per, fun _ => by show -1 ≤ (-1 : Int) ∧ (-1 : Int) < _; omega⟩
      · rw [if_neg h3]
        exact sd_at h hi (Pr.sLate true) (fun p => ⟨rfl, rfl, rfl, rfl, rfl, rfl, rfl, rfl⟩) hs ⟨aw.2.2.1, aw.2.2.2⟩ (by have := L.mis; show 0 ≤ (T.ps i).mis ∧ (T.ps i).mis ≤ _; omega) L.rel
    · rw [if_neg k2]
      exact sd_rouse h hi hs _
theorem sd_plays (h : Sd T q M) (s : Sp) (v : Value) (hx : s.ws.length ≤ M) (e : T.plays s v = some U) : Sd U (q + 1) M ∧ T.pl ≤ U.pl ∧ U.n = T.n ∧ U.hd = T.hd := by
  unfold Tt.plays at e
  by_cases k1 : s.k = 1
  · rw [if_pos k1] at e
    exact sd_start h e
  rw [if_neg k1] at e
  by_cases k2 : s.k = 2
  · rw [if_pos k2] at e
    exact sd_stop h e
  rw [if_neg k2] at e
  by_cases k3 : s.k = 3
  · rw [if_pos k3] at e
    exact sd_suspend h e
  rw [if_neg k3] at e
  by_cases k4 : s.k = 4
  · rw [if_pos k4] at e
    exact sd_resume h e
  rw [if_neg k4] at e
  by_cases k5 : s.k = 5
  · rw [if_pos k5] at e
    exact sd_lock h e
  rw [if_neg k5] at e
  by_cases k6 : s.k = 6
  · rw [if_pos k6] at e
    exact sd_unlock h e
  rw [if_neg k6] at e
  by_cases k7 : s.k = 7
  · rw [if_pos k7] at e
    exact sd_prio h e
  rw [if_neg k7] at e
  by_cases k8 : s.k = 8
  · rw [if_pos k8] at e
    exact sd_yield h e
  rw [if_neg k8] at e
  by_cases k9 : s.k = 9
  · rw [if_pos k9] at e
    exact sd_wait h hx e
  rw [if_neg k9] at e
  by_cases k10 : s.k = 10
  · rw [if_pos k10] at e
    exact sd_period h e
  rw [if_neg k10] at e
  by_cases k11 : s.k = 11
  · rw [if_pos k11] at e
    exact sd_wake h e
  rw [if_neg k11] at e
  by_cases k12 : s.k = 12
  · rw [if_pos k12] at e
    exact sd_set h e
  rw [if_neg k12] at e
  by_cases k13 : s.k = 13
  · rw [if_pos k13] at e
    exact sd_fire h e
  rw [if_neg k13] at e
  cases e
end
end Go.Proofs.Ytofkacfchkimiaa
