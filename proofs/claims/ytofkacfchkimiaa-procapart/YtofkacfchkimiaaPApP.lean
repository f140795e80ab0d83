/-
  ProcApart: a table but for where its words lie (plain).
-/
import Derived.Test.YtofkacfchkimiaaPSndC
import Derived.Test.YtofkacfchkimiaaPStates
namespace Go.Proofs.Ytofkacfchkimiaa
open Go.RowKit Plain
set_option linter.unusedVariables false
set_option linter.unusedSimpArgs false
set_option maxRecDepth 100000

def Pr.bl (p : Pr) : Pr := { p with da := .slice none 0 0 }
def Tt.bl (T : Tt) : Tt := { T with ps := fun i => (T.ps i).bl }
theorem bl_at (T : Tt) (i : Nat) (f f' : Pr → Pr) (h : (f (T.ps i)).bl = f' (T.ps i).bl) : (T.at i f).bl = T.bl.at i f' :=
  Tt.ext' (fun x => by
    show ((T.at i f).ps x).bl = (T.bl.at i f').ps x
    by_cases e : x = i
    · subst e; rw [Tt.at_same, Tt.at_same]; exact h
    · rw [Tt.at_other _ _ e, Tt.at_other _ _ e]; rfl) rfl rfl rfl rfl rfl
theorem bl_behind (T : Tt) (i : Nat) : (T.behind i).bl = T.bl.behind i := by
  unfold Tt.behind
  have := bl_at T i (Pr.sPl T.pl) (Pr.sPl T.pl) rfl
  exact Tt.ext' (fun x => congrFun (congrArg Tt.ps this) x) rfl rfl rfl rfl rfl
theorem bl_enter (T : Tt) (i : Nat) (s : Int) : (T.enter i s).bl = T.bl.enter i s := by
  unfold Tt.enter
  rw [bl_behind, bl_at _ i _ (Pr.sDa (.slice none 0 0) []) rfl, bl_at _ i _ (Pr.sAd 0) rfl, bl_at _ i _ (Pr.sOb 0) rfl, bl_at _ i _ (Pr.sUn (-1)) rfl, bl_at _ i _ (Pr.sSt s) rfl]
theorem bl_job (T : Tt) (i : Nat) (now : Int) : (T.job i now).bl = T.bl.job i now := by
  unfold Tt.job
  rw [bl_at _ i _ (Pr.sLate false) rfl, bl_at _ i _ (fun p => p.sDl (p.dlf now)) rfl, bl_at _ i _ (Pr.sRel now) rfl, bl_enter]
theorem bl_start (T : Tt) (i : Nat) (now x y z : Int) : (T.start i now x y z).bl = T.bl.start i now x y z := by
  unfold Tt.start
  rw [bl_job, bl_at _ i _ (Pr.sRgs (rg3 x y z)) rfl, bl_at _ i _ (fun p => p.sPc p.en) rfl, bl_at _ i _ (fun p => p.sPri p.pp) rfl]
theorem bl_stop (T : Tt) (i : Nat) : (T.stop i).bl = T.bl.stop i := by
  unfold Tt.stop
  have h := bl_at T i Pr.ends Pr.ends rfl
  by_cases e : T.lk = (i : Int) + 1
  · rw [if_pos e, if_pos (show T.bl.lk = (i : Int) + 1 from e), ← h]; rfl
  · rw [if_neg e, if_neg (show ¬ T.bl.lk = (i : Int) + 1 from e), h]
theorem bl_prio (T : Tt) (i : Nat) (x : Int) : (T.prio i x).bl = T.bl.prio i x := by
  unfold Tt.prio
  by_cases e : (T.ps i).st = 1
  · rw [if_pos e, if_pos (show (T.bl.ps i).st = 1 from e), bl_behind, bl_at _ i _ (Pr.sPri x) rfl]
  · rw [if_neg e, if_neg (show ¬ (T.bl.ps i).st = 1 from e), bl_at _ i _ (Pr.sPri x) rfl]
theorem bl_wait (T : Tt) (i : Nat) (s un ob ad : Int) (v : Value) (l : List Int) : (T.wait i s un ob ad v l).bl = T.bl.wait i s un ob ad (.slice none 0 0) l := by
  unfold Tt.wait
  rw [bl_at _ i _ (Pr.sDa (.slice none 0 0) l) rfl, bl_at _ i _ (Pr.sAd ad) rfl, bl_at _ i _ (Pr.sOb ob) rfl, bl_at _ i _ (Pr.sUn un) rfl, bl_enter]
theorem bl_period (T : Tt) (i : Nat) (now : Int) : (T.period i now).bl = T.bl.period i now := by
  unfold Tt.period
  rw [bl_at _ i _ (fun p => p.sUn (p.above now)) rfl, bl_at _ i _ (Pr.sDl (-1)) rfl, bl_enter]
theorem bl_rouse (T : Tt) (i : Nat) (r : Int) : (T.rouse i r).bl = T.bl.rouse i r := by
  unfold Tt.rouse
  rw [bl_at _ i _ (Pr.sRg 0 r) rfl, bl_enter]
theorem bl_set (T : Tt) (i : Nat) (f : Nat → Int) (pc : Int) : (T.set i f pc).bl = T.bl.set i f pc := by
  unfold Tt.set
  rw [bl_at _ i _ (Pr.sPc pc) rfl, bl_at _ i _ (Pr.sRgs f) rfl]
theorem bl_fire (T : Tt) (i : Nat) (kind now : Int) : (T.fire i kind now).bl = T.bl.fire i kind now := by
  unfold Tt.fire
  by_cases k1 : kind = 1
  · rw [if_pos k1, if_pos k1]
    unfold Tt.miss
    rw [bl_at _ i _ (Pr.sDl (-1)) rfl, bl_at _ i _ (fun p => p.sMis (p.mis + 1)) rfl]
  · rw [if_neg k1, if_neg k1]
    by_cases k2 : kind = 2
    · rw [if_pos k2, if_pos k2]
      unfold Tt.release
      by_cases e : (T.ps i).st = 3
      · rw [if_pos e, if_pos (show (T.bl.ps i).st = 3 from e), bl_job, bl_at _ i _ (Pr.sRg 0 0) rfl]
      · rw [if_neg e, if_neg (show ¬ (T.bl.ps i).st = 3 from e), bl_at _ i _ (Pr.sLate true) rfl]
    · rw [if_neg k2, if_neg k2]
      unfold Tt.out
      rw [bl_rouse]
      rfl
theorem bl_if (T : Tt) (p : Int) (c : Nat → Bool) (f f' : Nat → Tt) (h : ∀ i, (f i).bl = f' i) : (T.if p c f).map Tt.bl = T.bl.if p c f' := by
  rcases T.ix_cases p with hp | ⟨i, hi, rfl⟩
  · rw [Tt.if_out hp, Tt.if_out (show p < 1 ∨ ((T.bl).n : Int) < p from hp)]; rfl
  · by_cases hc : c i = true
    · rw [Tt.if_yes hi f hc, Tt.if_yes (show i < T.bl.n from hi) f' hc, Option.map_some, h]
    · rw [Tt.if_not hi f hc, Tt.if_not (show i < T.bl.n from hi) f' hc]; rfl
/-- what a step makes does not hang on where the words lie -/
theorem bl_plays (T : Tt) (s : Sp) (v : Value) : (T.plays s v).map Tt.bl = T.bl.plays s (.slice none 0 0) := by
  unfold Tt.plays
  by_cases k1 : s.k = 1
  · rw [if_pos k1, if_pos k1]; exact bl_if T _ _ _ _ (fun i => bl_start T i _ _ _ _)
  rw [if_neg k1, if_neg k1]
  by_cases k2 : s.k = 2
  · rw [if_pos k2, if_pos k2]; exact bl_if T _ _ _ _ (fun i => bl_stop T i)
  rw [if_neg k2, if_neg k2]
  by_cases k3 : s.k = 3
  · rw [if_pos k3, if_pos k3]; exact bl_if T _ _ _ _ (fun i => bl_enter T i _)
  rw [if_neg k3, if_neg k3]
  by_cases k4 : s.k = 4
  · rw [if_pos k4, if_pos k4]; exact bl_if T _ _ _ _ (fun i => bl_enter T i _)
  rw [if_neg k4, if_neg k4]
  by_cases k5 : s.k = 5
  · rw [if_pos k5, if_pos k5]; exact bl_if T _ _ _ _ (fun i => rfl)
  rw [if_neg k5, if_neg k5]
  by_cases k6 : s.k = 6
  · rw [if_pos k6, if_pos k6]; exact bl_if T _ _ _ _ (fun i => rfl)
  rw [if_neg k6, if_neg k6]
  by_cases k7 : s.k = 7
  · rw [if_pos k7, if_pos k7]; exact bl_if T _ _ _ _ (fun i => bl_prio T i _)
  rw [if_neg k7, if_neg k7]
  by_cases k8 : s.k = 8
  · rw [if_pos k8, if_pos k8]; exact bl_if T _ _ _ _ (fun i => bl_behind T i)
  rw [if_neg k8, if_neg k8]
  by_cases k9 : s.k = 9
  · rw [if_pos k9, if_pos k9]; exact bl_if T _ _ _ _ (fun i => bl_wait T i _ _ _ _ _ _)
  rw [if_neg k9, if_neg k9]
  by_cases k10 : s.k = 10
  · rw [if_pos k10, if_pos k10]; exact bl_if T _ _ _ _ (fun i => bl_period T i _)
  rw [if_neg k10, if_neg k10]
  by_cases k11 : s.k = 11
  · rw [if_pos k11, if_pos k11]; exact bl_if T _ _ _ _ (fun i => bl_rouse T i _)
  rw [if_neg k11, if_neg k11]
  by_cases k12 : s.k = 12
  · rw [if_pos k12, if_pos k12]; exact bl_if T _ _ _ _ (fun i => bl_set T i _ _)
  rw [if_neg k12, if_neg k12]
  by_cases k13 : s.k = 13
  · rw [if_pos k13, if_pos k13]; exact bl_if T _ _ _ _ (fun i => bl_fire T i _ _)
  rw [if_neg k13, if_neg k13]
  rfl
/-- states of tables that are alike are alike -/
theorem sL_bl (T U : Tt) (h : T.bl = U.bl) (ds : Nat → Value) : ∀ k, sL T ds k = sL U ds k
  | 0 => rfl
  | k + 1 => by
    have e : (T.ps k).bl = (U.ps k).bl := congrFun (congrArg Tt.ps h) k
    have e2 : (T.ps k).val (ds k) = (U.ps k).val (ds k) := by
      have : (T.ps k).bl.val (ds k) = (U.ps k).bl.val (ds k) := by rw [e]
      exact this
    show sL T ds k ++ ((T.ps k).val (ds k)).toList = _
    rw [sL_bl T U h ds k, e2]
    rfl
/-- where the words of all processes lie -/
def Tt.dq (P : Value → Prop) (T : Tt) : Prop := ∀ i, P (T.ps i).da
section
variable {P : Value → Prop} {T U : Tt}
theorem dq_at (h : T.dq P) {i : Nat} {f : Pr → Pr} (hf : P (f (T.ps i)).da) : (T.at i f).dq P := fun x => by
  by_cases e : x = i
  · subst e; rw [Tt.at_same]; exact hf
  · rw [Tt.at_other _ _ e]; exact h x
theorem dq_same (h : T.dq P) {i : Nat} {f : Pr → Pr} (hf : ∀ p, (f p).da = p.da) : (T.at i f).dq P := dq_at h (by rw [hf]; exact h i)
theorem dq_behind (h : T.dq P) (i : Nat) : (T.behind i).dq P := fun x => (dq_same h (f := Pr.sPl T.pl) (i := i) (fun _ => rfl)) x
theorem dq_enter (h : T.dq P) (hn : P (.slice none 0 0)) (i : Nat) (s : Int) : (T.enter i s).dq P := by
  unfold Tt.enter
  refine dq_behind ?_ i
  refine dq_at ?_ hn
  refine dq_same ?_ (fun _ => rfl)
  refine dq_same ?_ (fun _ => rfl)
  refine dq_same ?_ (fun _ => rfl)
  refine dq_same ?_ (fun _ => rfl)
  exact h
theorem dq_job (h : T.dq P) (hn : P (.slice none 0 0)) (i : Nat) (now : Int) : (T.job i now).dq P := by
  unfold Tt.job
  refine dq_same ?_ (fun _ => rfl)
  refine dq_same ?_ (fun _ => rfl)
  refine dq_same ?_ (fun _ => rfl)
  exact dq_enter h hn i 1
theorem dq_start (h : T.dq P) (hn : P (.slice none 0 0)) (i : Nat) (now x y z : Int) : (T.start i now x y z).dq P := by
  unfold Tt.start
  refine dq_job ?_ hn i now
  refine dq_same ?_ (fun _ => rfl)
  refine dq_same ?_ (fun _ => rfl)
  refine dq_same ?_ (fun _ => rfl)
  exact h
theorem dq_stop (h : T.dq P) (hn : P (.slice none 0 0)) (i : Nat) : (T.stop i).dq P := by
  unfold Tt.stop
  have h1 : (T.at i Pr.ends).dq P := dq_at h hn
  split
  · exact fun x => h1 x
  · exact h1
theorem dq_prio (h : T.dq P) (i : Nat) (x : Int) : (T.prio i x).dq P := by
  unfold Tt.prio
  have h1 : (T.at i (Pr.sPri x)).dq P := dq_same h (fun _ => rfl)
  split
  · exact dq_behind h1 i
  · exact h1
theorem dq_wait (h : T.dq P) (hn : P (.slice none 0 0)) (i : Nat) (s un ob ad : Int) {v : Value} (hv : P v) (l : List Int) : (T.wait i s un ob ad v l).dq P := by
  unfold Tt.wait
  refine dq_at ?_ hv
  refine dq_same ?_ (fun _ => rfl)
  refine dq_same ?_ (fun _ => rfl)
  refine dq_same ?_ (fun _ => rfl)
  exact dq_enter h hn i s
theorem dq_period (h : T.dq P) (hn : P (.slice none 0 0)) (i : Nat) (now : Int) : (T.period i now).dq P := by
  unfold Tt.period
  refine dq_same ?_ (fun _ => rfl)
  refine dq_same ?_ (fun _ => rfl)
  exact dq_enter h hn i 3
theorem dq_rouse (h : T.dq P) (hn : P (.slice none 0 0)) (i : Nat) (r : Int) : (T.rouse i r).dq P := by
  unfold Tt.rouse
  refine dq_same ?_ (fun _ => rfl)
  exact dq_enter h hn i 1
theorem dq_set (h : T.dq P) (i : Nat) (f : Nat → Int) (pc : Int) : (T.set i f pc).dq P := by
  unfold Tt.set
  refine dq_same ?_ (fun _ => rfl)
  refine dq_same ?_ (fun _ => rfl)
  exact h
theorem dq_fire (h : T.dq P) (hn : P (.slice none 0 0)) (i : Nat) (kind now : Int) : (T.fire i kind now).dq P := by
  unfold Tt.fire
  split
  · unfold Tt.miss
    refine dq_same ?_ (fun _ => rfl)
    refine dq_same ?_ (fun _ => rfl)
    exact h
  · split
    · unfold Tt.release
      split
      · refine dq_job ?_ hn i now
        refine dq_same ?_ (fun _ => rfl)
        exact h
      · refine dq_same ?_ (fun _ => rfl)
        exact h
    · unfold Tt.out; exact dq_rouse h hn i _
theorem dq_plays (h : T.dq P) (hn : P (.slice none 0 0)) {s : Sp} {v : Value} (hv : P v) (e : T.plays s v = some U) : U.dq P := by
  unfold Tt.plays at e
  by_cases k1 : s.k = 1
  · rw [if_pos k1] at e; obtain ⟨i, _, _, rfl⟩ := if_some e; exact dq_start h hn i _ _ _ _
  rw [if_neg k1] at e
  by_cases k2 : s.k = 2
  · rw [if_pos k2] at e; obtain ⟨i, _, _, rfl⟩ := if_some e; exact dq_stop h hn i
  rw [if_neg k2] at e
  by_cases k3 : s.k = 3
  · rw [if_pos k3] at e; obtain ⟨i, _, _, rfl⟩ := if_some e; exact dq_enter h hn i _
  rw [if_neg k3] at e
  by_cases k4 : s.k = 4
  · rw [if_pos k4] at e; obtain ⟨i, _, _, rfl⟩ := if_some e; exact dq_enter h hn i _
  rw [if_neg k4] at e
  by_cases k5 : s.k = 5
  · rw [if_pos k5] at e; obtain ⟨i, _, _, rfl⟩ := if_some e; exact fun x => h x
  rw [if_neg k5] at e
  by_cases k6 : s.k = 6
  · rw [if_pos k6] at e; obtain ⟨i, _, _, rfl⟩ := if_some e; exact fun x => h x
  rw [if_neg k6] at e
  by_cases k7 : s.k = 7
  · rw [if_pos k7] at e; obtain ⟨i, _, _, rfl⟩ := if_some e; exact dq_prio h i _
  rw [if_neg k7] at e
  by_cases k8 : s.k = 8
  · rw [if_pos k8] at e; obtain ⟨i, _, _, rfl⟩ := if_some e; exact dq_behind h i
  rw [if_neg k8] at e
  by_cases k9 : s.k = 9
  · rw [if_pos k9] at e; obtain ⟨i, _, _, rfl⟩ := if_some e; exact dq_wait h hn i _ _ _ _ hv _
  rw [if_neg k9] at e
  by_cases k10 : s.k = 10
  · rw [if_pos k10] at e; obtain ⟨i, _, _, rfl⟩ := if_some e; exact dq_period h hn i _
  rw [if_neg k10] at e
  by_cases k11 : s.k = 11
  · rw [if_pos k11] at e; obtain ⟨i, _, _, rfl⟩ := if_some e; exact dq_rouse h hn i _
  rw [if_neg k11] at e
  by_cases k12 : s.k = 12
  · rw [if_pos k12] at e; obtain ⟨i, _, _, rfl⟩ := if_some e; exact dq_set h i _ _
  rw [if_neg k12] at e
  by_cases k13 : s.k = 13
  · rw [if_pos k13] at e; obtain ⟨i, _, _, rfl⟩ := if_some e; exact dq_fire h hn i _ _
  rw [if_neg k13] at e
  cases e
end
/-- what turns neither block of a table, nor its words -/
theorem Tw.apart {w w' : World} {b g cap : Nat} {T : Tt} {F : Nat → Prop} (h : Tw w b g cap T) (k : Kept F w w') (hb : ¬ F b) (hg : ¬ F g) (hd : ∀ i q, i < T.n → (T.ps i).da.ownBlock = some q → ¬ F q) : Tw w' b g cap T := by
  have hl := h.low
  refine ⟨k.cell h.box hb, k.cell h.cd hb, k.cell h.hd hb, k.cell h.lk hb, k.cell h.pl hb, h.ne, h.one, h.hcap, h.hmax, fun i => ?_, fun i => ?_, fun i hi j hj => k.cell (h.at' i hi j hj) hg, fun i hi => ?_⟩
  · have := h.fb i
    simp only [World.frozen?, k.block b hl.1 hb] at this ⊢
    exact this
  · have := h.fg i
    simp only [World.frozen?, k.block g hl.2 hg] at this ⊢
    exact this
  · obtain ⟨a, m, c, e, z⟩ := h.da i hi
    have hq := hd i
    rw [e] at hq
    refine ⟨a, m, c, e, z.len, z.cap, z.max, z.nil, fun x hx => ?_⟩
    obtain ⟨q, o, ea, hf, hc⟩ := z.at' x hx
    subst ea
    exact ⟨q, o, rfl, ⟨hf.1, hf.2.1, Nat.lt_of_lt_of_le hf.2.2 k.size⟩, k.cell hc (hq q hi rfl)⟩
/-- states that were told of a table, held against another one that is alike -/
theorem StL.bl {w W : World} {T U : Tt} {k : Nat} {v : Value} {ds : Nat → Value} (h : StL w W T k v ds) (e : T.bl = U.bl) : StL w W U k v ds := by
  have ews : ∀ j, (T.ps j).ws = (U.ps j).ws := fun j => by
    have e1 : (T.ps j).bl = (U.ps j).bl := congrFun (congrArg Tt.ps e) j
    have : (T.ps j).bl.ws = (U.ps j).bl.ws := by rw [e1]
    exact this
  refine ⟨by rw [← sL_bl T U e]; exact h.1, h.2.1, fun j hj => ?_, h.2.2.2⟩
  have := h.2.2.1 j hj
  rw [ews j] at this
  exact this
end Go.Proofs.Ytofkacfchkimiaa
