/-
  ProcFair: the line of those that are READY, the line of those that wait (no dump).
-/
import Derived.Test.YtofkacfchkimiaaPPick
import Derived.Test.YtofkacfchkimiaaPStart
import Derived.Test.YtofkacfchkimiaaPWait
namespace Go.Proofs.Ytofkacfchkimiaa
open Go.RowKit
set_option linter.unusedVariables false
set_option maxRecDepth 100000

structure Fm (T : Tt) (n : Nat) (ls wl : List Nat) : Prop where
  n' : T.n = n
  hd : T.hd = 0
  lk : T.lk = 0
  nd : (ls ++ wl).Nodup
  lt : ∀ i ∈ ls ++ wl, i < n
  pp : ∀ i, i < n → (T.ps i).pp = 0
  rs : ∀ i, i < n → ((T.ps i).st = 1 ↔ i ∈ ls)
  ws : ∀ i, i < n → ((T.ps i).st = 7 ↔ i ∈ wl)
  wo : ∀ i ∈ wl, (T.ps i).ob = 3
  dm : ∀ i, i < n → i ∉ ls → i ∉ wl → (T.ps i).st = 0
  pr : ∀ i ∈ ls ++ wl, (T.ps i).pri = 0
  up : ls.Pairwise (fun i j => (T.ps i).pl < (T.ps j).pl)
  uw : wl.Pairwise (fun i j => (T.ps i).pl < (T.ps j).pl)
  top : ∀ i ∈ ls ++ wl, (T.ps i).pl < T.pl

theorem start_oth (T : Tt) {i j : Nat} (now x y z : Int) (h : j ≠ i) : (T.start i now x y z).ps j = T.ps j := by
  simp [Tt.start, Tt.job, Tt.enter, Tt.behind, Tt.at, h]
theorem start_own (T : Tt) (i : Nat) (now x y z : Int) : ((T.start i now x y z).ps i).st = 1 ∧ ((T.start i now x y z).ps i).pri = (T.ps i).pp ∧ ((T.start i now x y z).ps i).pl = T.pl ∧ ((T.start i now x y z).ps i).pp = (T.ps i).pp := by
  simp [Tt.start, Tt.job, Tt.enter, Tt.behind, Tt.at, Pr.sPri, Pr.sPc, Pr.sRgs, Pr.sSt, Pr.sUn, Pr.sOb, Pr.sAd, Pr.sDa, Pr.sPl, Pr.sRel, Pr.sDl, Pr.sLate]
theorem behind_oth (T : Tt) {i j : Nat} (h : j ≠ i) : (T.behind i).ps j = T.ps j := by simp [Tt.behind, Tt.at, h]
theorem behind_own (T : Tt) (i : Nat) : ((T.behind i).ps i).st = (T.ps i).st ∧ ((T.behind i).ps i).pri = (T.ps i).pri ∧ ((T.behind i).ps i).pl = T.pl ∧ ((T.behind i).ps i).pp = (T.ps i).pp ∧ ((T.behind i).ps i).ob = (T.ps i).ob := by
  simp [Tt.behind, Tt.at, Pr.sPl]
theorem wait_oth (T : Tt) {i j : Nat} (s un ob ad : Int) (v : Value) (l : List Int) (h : j ≠ i) : (T.wait i s un ob ad v l).ps j = T.ps j := by
  simp [Tt.wait, Tt.enter, Tt.behind, Tt.at, h]
theorem wait_own (T : Tt) (i : Nat) (s un ob ad : Int) (v : Value) (l : List Int) : ((T.wait i s un ob ad v l).ps i).st = s ∧ ((T.wait i s un ob ad v l).ps i).pri = (T.ps i).pri ∧ ((T.wait i s un ob ad v l).ps i).pl = T.pl ∧ ((T.wait i s un ob ad v l).ps i).pp = (T.ps i).pp ∧ ((T.wait i s un ob ad v l).ps i).ob = ob := by
  simp [Tt.wait, Tt.enter, Tt.behind, Tt.at, Pr.sSt, Pr.sUn, Pr.sOb, Pr.sAd, Pr.sDa, Pr.sPl]

namespace Fm
variable {T : Tt} {n : Nat} {ls wl : List Nat}

theorem nodup_end {l : List Nat} {i : Nat} (hl : l.Nodup) (hi : i ∉ l) : (l ++ [i]).Nodup := by
  rw [List.nodup_append]
  refine ⟨hl, by simp, fun a ha b hb e => ?_⟩
  have hb' : b = i := by simpa using hb
  exact hi (hb' ▸ e ▸ ha)
/-- one more at the end of a rising list -/
theorem rise {f g : Nat → Int} {l : List Nat} {i : Nat} {p : Int} (h : l.Pairwise (fun a b => f a < f b)) (hi : i ∉ l) (ho : ∀ j, j ≠ i → g j = f j) (hg : g i = p) (ht : ∀ j ∈ l, f j < p) : (l ++ [i]).Pairwise (fun a b => g a < g b) := by
  rw [List.pairwise_append]
  refine ⟨?_, List.pairwise_singleton _ _, fun a ha b hb => ?_⟩
  · refine List.Pairwise.imp_of_mem (fun {a b} ha hb hab => ?_) h
    rw [ho a (fun e => hi (e ▸ ha)), ho b (fun e => hi (e ▸ hb))]; exact hab
  · have : b = i := by simpa using hb
    subst this
    rw [ho a (fun e => hi (e ▸ ha)), hg]; exact ht a ha
theorem same {f g : Nat → Int} {l : List Nat} {i : Nat} (h : l.Pairwise (fun a b => f a < f b)) (hi : i ∉ l) (ho : ∀ j, j ≠ i → g j = f j) : l.Pairwise (fun a b => g a < g b) :=
  List.Pairwise.imp_of_mem (fun {a b} ha hb hab => by rw [ho a (fun e => hi (e ▸ ha)), ho b (fun e => hi (e ▸ hb))]; exact hab) h

theorem start (h : Fm T n ls []) {i : Nat} (hi : i < n) (hs : i ∉ ls) : Fm (T.start i 0 0 0 0) n (ls ++ [i]) [] := by
  obtain ⟨o1, o2, o3, o4⟩ := start_own T i 0 0 0 0
  have ot : ∀ {j : Nat}, j ≠ i → (T.start i 0 0 0 0).ps j = T.ps j := fun hj => start_oth T 0 0 0 0 hj
  have hnd := h.nd
  have hlt := h.lt
  have hpr := h.pr
  have htp := h.top
  rw [List.append_nil] at hnd hlt hpr htp
  refine ⟨h.n', h.hd, h.lk, ?_, ?_, ?_, ?_, ?_, fun _ hx => (by cases hx), ?_, ?_, ?_, List.Pairwise.nil, ?_⟩
  · rw [List.append_nil]; exact nodup_end hnd hs
  · intro j hj
    simp at hj
    rcases hj with hj | rfl
    · exact hlt j hj
    · exact hi
  · intro j hj
    by_cases e : j = i
    · subst e; rw [o4]; exact h.pp j hj
    · rw [ot e]; exact h.pp j hj
  · intro j hj
    by_cases e : j = i
    · subst e; simp [o1]
    · rw [ot e, h.rs j hj]; simp [e]
  · intro j hj
    by_cases e : j = i
    · subst e; rw [o1]; simp
    · rw [ot e]; exact h.ws j hj
  · intro j hj h1 h2
    have e : j ≠ i := fun e => h1 (by simp [e])
    rw [ot e]; exact h.dm j hj (fun e => h1 (by simp [e])) h2
  · intro j hj
    simp at hj
    by_cases e : j = i
    · subst e; rw [o2]; exact h.pp j hi
    · rw [ot e]; exact hpr j (hj.resolve_right e)
  · exact rise (f := fun j => (T.ps j).pl) (g := fun j => ((T.start i 0 0 0 0).ps j).pl) h.up hs (fun j hj => by show _ = _; rw [ot hj]) o3 htp
  · intro j hj
    simp at hj
    show _ < T.pl + 1
    by_cases e : j = i
    · subst e; rw [o3]; omega
    · rw [ot e]; have := htp j (hj.resolve_right e); omega

theorem behind {i : Nat} {r : List Nat} (h : Fm T n (i :: r) []) : Fm (T.behind i) n (r ++ [i]) [] := by
  obtain ⟨o1, o2, o3, o4, o5⟩ := behind_own T i
  have ot : ∀ {j : Nat}, j ≠ i → (T.behind i).ps j = T.ps j := fun hj => behind_oth T hj
  have hnd := h.nd
  have hlt := h.lt
  have hpr := h.pr
  have htp := h.top
  rw [List.append_nil] at hnd hlt hpr htp
  have hir : i ∉ r := (List.nodup_cons.1 hnd).1
  have hin : i < n := hlt i (by simp)
  have s1 : (T.ps i).st = 1 := (h.rs i hin).2 (by simp)
  refine ⟨h.n', h.hd, h.lk, ?_, ?_, ?_, ?_, ?_, fun _ hx => (by cases hx), ?_, ?_, ?_, List.Pairwise.nil, ?_⟩
  · rw [List.append_nil]; exact nodup_end (List.nodup_cons.1 hnd).2 hir
  · intro j hj
    simp at hj
    rcases hj with hj | rfl
    · exact hlt j (by simp [hj])
    · exact hin
  · intro j hj
    by_cases e : j = i
    · subst e; rw [o4]; exact h.pp j hj
    · rw [ot e]; exact h.pp j hj
  · intro j hj
    by_cases e : j = i
    · subst e; simp [o1, s1]
    · rw [ot e, h.rs j hj]; simp [e]
  · intro j hj
    by_cases e : j = i
    · subst e; rw [o1, s1]; simp
    · rw [ot e]; exact h.ws j hj
  · intro j hj h1 h2
    have e : j ≠ i := fun e => h1 (by simp [e])
    rw [ot e]; exact h.dm j hj (fun e' => h1 (by simp at e'; rcases e' with e' | e'; exact absurd e' e; simp [e'])) h2
  · intro j hj
    simp at hj
    by_cases e : j = i
    · subst e; rw [o2]; exact hpr j (by simp)
    · rw [ot e]; exact hpr j (by simp [hj.resolve_right e])
  · exact rise (f := fun j => (T.ps j).pl) (g := fun j => ((T.behind i).ps j).pl) (List.pairwise_cons.1 h.up).2 hir (fun j hj => by show _ = _; rw [ot hj]) o3 (fun j hj => htp j (by simp [hj]))
  · intro j hj
    simp at hj
    show _ < T.pl + 1
    by_cases e : j = i
    · subst e; rw [o3]; omega
    · rw [ot e]; have := htp j (by simp [hj.resolve_right e]); omega

theorem wait {i : Nat} {r : List Nat} (h : Fm T n (i :: r) wl) (v : Value) (l : List Int) : Fm (T.wait i 7 (-1) 3 0 v l) n r (wl ++ [i]) := by
  obtain ⟨o1, o2, o3, o4, o5⟩ := wait_own T i 7 (-1) 3 0 v l
  have ot : ∀ {j : Nat}, j ≠ i → (T.wait i 7 (-1) 3 0 v l).ps j = T.ps j := fun hj => wait_oth T 7 (-1) 3 0 v l hj
  have hnd := h.nd
  rw [List.cons_append] at hnd
  have hiw : i ∉ r ++ wl := (List.nodup_cons.1 hnd).1
  have hir : i ∉ r := fun e => hiw (by simp [e])
  have hiw' : i ∉ wl := fun e => hiw (by simp [e])
  have hin : i < n := h.lt i (by simp)
  refine ⟨h.n', h.hd, h.lk, ?_, ?_, ?_, ?_, ?_, ?_, ?_, ?_, ?_, ?_, ?_⟩
  · rw [← List.append_assoc]; exact nodup_end (List.nodup_cons.1 hnd).2 hiw
  · intro j hj
    simp at hj
    rcases hj with hj | hj | rfl
    · exact h.lt j (by simp [hj])
    · exact h.lt j (by simp [hj])
    · exact hin
  · intro j hj
    by_cases e : j = i
    · subst e; rw [o4]; exact h.pp j hj
    · rw [ot e]; exact h.pp j hj
  · intro j hj
    by_cases e : j = i
    · subst e; rw [o1]; simp [hir]
    · rw [ot e, h.rs j hj]; simp [e]
  · intro j hj
    by_cases e : j = i
    · subst e; simp [o1]
    · rw [ot e, h.ws j hj]; simp [e]
  · intro j hj
    simp at hj
    by_cases e : j = i
    · subst e; exact o5
    · rw [ot e]; exact h.wo j (hj.resolve_right e)
  · intro j hj h1 h2
    have e : j ≠ i := fun e => h2 (by simp [e])
    rw [ot e]; exact h.dm j hj (fun e' => by simp at e'; rcases e' with e' | e'; exact e e'; exact h1 e') (fun e' => h2 (by simp [e']))
  · intro j hj
    simp at hj
    by_cases e : j = i
    · subst e; rw [o2]; exact h.pr j (by simp)
    · rw [ot e]; exact h.pr j (by rcases hj with hj | hj | hj; simp [hj]; simp [hj]; exact absurd hj e)
  · exact same (f := fun j => (T.ps j).pl) (g := fun j => ((T.wait i 7 (-1) 3 0 v l).ps j).pl) (List.pairwise_cons.1 h.up).2 hir (fun j hj => by show _ = _; rw [ot hj])
  · exact rise (f := fun j => (T.ps j).pl) (g := fun j => ((T.wait i 7 (-1) 3 0 v l).ps j).pl) h.uw hiw' (fun j hj => by show _ = _; rw [ot hj]) o3 (fun j hj => h.top j (by simp [hj]))
  · intro j hj
    simp at hj
    show _ < T.pl + 1
    by_cases e : j = i
    · subst e; rw [o3]; omega
    · rw [ot e]; have := h.top j (by rcases hj with hj | hj | hj; simp [hj]; simp [hj]; exact absurd hj e); omega

theorem pk_succ (T : Tt) (k : Nat) : T.pk (k + 1) = if (T.ps k).st = 1 ∧ (T.pk k = 0 ∨ cmpP (T.ps k) (T.ps (T.pk k - 1)) < 0) then k + 1 else T.pk k := rfl
/-- who is picked -/
theorem pk_none (h : Fm T n [] wl) : ∀ k, k ≤ n → T.pk k = 0
  | 0, _ => rfl
  | k + 1, hk => by
    rw [pk_succ, if_neg (fun e => by have := (h.rs k (by omega)).1 e.1; cases this)]
    exact pk_none h k (by omega)
theorem pk_some {i : Nat} {r : List Nat} (h : Fm T n (i :: r) wl) : ∀ k, k ≤ n → T.pk k = 0 ∧ k ≤ i ∨ (T.pk k ≠ 0 ∧ T.pk k - 1 ∈ i :: r ∧ (i < k → T.pk k = i + 1)) ∨ (T.pk k = 0 ∧ ∀ j, j < k → j ∉ i :: r)
  | 0, _ => .inl ⟨rfl, Nat.zero_le _⟩
  | k + 1, hk => by
    have ih := pk_some h k (by omega)
    have cm : ∀ a ∈ i :: r, ∀ b ∈ i :: r, cmpP (T.ps a) (T.ps b) = sgn (T.ps a).pl (T.ps b).pl := fun a ha b hb => by
      unfold cmpP
      rw [h.pr a (by simp at ha ⊢; rcases ha with ha | ha <;> simp [ha]), h.pr b (by simp at hb ⊢; rcases hb with hb | hb <;> simp [hb])]
      simp
    have least : ∀ a ∈ r, (T.ps i).pl < (T.ps a).pl := (List.pairwise_cons.1 h.up).1
    by_cases hm : k ∈ i :: r
    · have hst : (T.ps k).st = 1 := (h.rs k (by omega)).2 hm
      right; left
      by_cases h0 : T.pk k = 0
      · have e : T.pk (k + 1) = k + 1 := by rw [pk_succ, if_pos ⟨hst, .inl h0⟩]
        rw [e]
        refine ⟨by omega, by simpa using hm, fun hik => ?_⟩
        rcases ih with ⟨_, h2⟩ | ⟨h1, _⟩ | ⟨_, h2⟩
        · omega
        · exact absurd h0 h1
        · by_cases e : i = k
          · omega
          · exact absurd (by simp) (h2 i (by omega))
      · obtain ⟨_, hpm, hpi⟩ : T.pk k ≠ 0 ∧ T.pk k - 1 ∈ i :: r ∧ (i < k → T.pk k = i + 1) := by
          rcases ih with ⟨h1, _⟩ | h2 | ⟨h1, _⟩
          · exact absurd h1 h0
          · exact h2
          · exact absurd h1 h0
        have hcm := cm k hm _ hpm
        by_cases hik : k = i
        · -- it is the first itself
          have hlt : cmpP (T.ps k) (T.ps (T.pk k - 1)) < 0 := by
            rw [hcm]
            have hne : T.pk k - 1 ≠ i := by have := pk_le T k; omega
            have hr : T.pk k - 1 ∈ r := by simp at hpm; exact hpm.resolve_left hne
            have h8 := least _ hr
            have h9 : (T.ps k).pl < (T.ps (T.pk k - 1)).pl := by rw [show T.ps k = T.ps i by rw [hik]]; exact h8
            unfold sgn
            rw [if_pos h9]; decide
          have e : T.pk (k + 1) = k + 1 := by rw [pk_succ, if_pos ⟨hst, .inr hlt⟩]
          rw [e]
          exact ⟨by omega, by simpa using hm, fun _ => by omega⟩
        · have hkr : k ∈ r := by simp at hm; exact hm.resolve_left hik
          by_cases hlt : cmpP (T.ps k) (T.ps (T.pk k - 1)) < 0
          · have e : T.pk (k + 1) = k + 1 := by rw [pk_succ, if_pos ⟨hst, .inr hlt⟩]
            rw [e]
            refine ⟨by omega, by simpa using hm, fun hik' => ?_⟩
            exfalso
            have hp := hpi (by omega)
            rw [hcm, hp] at hlt
            have := least k hkr
            unfold sgn at hlt
            rw [show i + 1 - 1 = i from rfl, if_neg (by omega), if_pos this] at hlt
            omega
          · have e : T.pk (k + 1) = T.pk k := by
              rw [pk_succ, if_neg (fun e => by rcases e.2 with e' | e'; exact h0 e'; exact hlt e')]
            rw [e]
            exact ⟨h0, hpm, fun hik' => hpi (by omega)⟩
    · have e : T.pk (k + 1) = T.pk k := by
        rw [pk_succ, if_neg (fun e => hm ((h.rs k (by omega)).1 e.1))]
      rw [e]
      rcases ih with ⟨h1, h2⟩ | ⟨h1, h2, h3⟩ | ⟨h1, h2⟩
      · by_cases hki : k = i
        · exact absurd (by simp [hki]) hm
        · exact .inl ⟨h1, by omega⟩
      · exact .inr (.inl ⟨h1, h2, fun hik => h3 (by
          by_cases hki : i = k
          · exact absurd (by simp [hki]) hm
          · omega)⟩)
      · exact .inr (.inr ⟨h1, fun j hj => by
          by_cases hjk : j = k
          · rw [hjk]; exact hm
          · exact h2 j (by omega)⟩)
theorem pk_head {i : Nat} {r : List Nat} (h : Fm T n (i :: r) wl) : T.pk n = i + 1 := by
  have hin : i < n := h.lt i (by simp)
  rcases h.pk_some n (Nat.le_refl _) with ⟨_, h2⟩ | ⟨_, _, h3⟩ | ⟨_, h2⟩
  · omega
  · exact h3 hin
  · exact absurd (by simp) (h2 i hin)
end Fm

/-- those that wait so, in the order of their numbers -/
def wq (T : Tt) (s ob : Int) (k : Nat) : List Nat := (List.range k).filter (fun i => decide ((T.ps i).st = s ∧ (T.ps i).ob = ob))
theorem wq_succ (T : Tt) (s ob : Int) (k : Nat) : wq T s ob (k + 1) = wq T s ob k ++ (if (T.ps k).st = s ∧ (T.ps k).ob = ob then [k] else []) := by
  unfold wq
  rw [List.range_succ, List.filter_append]
  congr 1
  by_cases h : (T.ps k).st = s ∧ (T.ps k).ob = ob
  · rw [if_pos h]; simp [h]
  · rw [if_neg h]; simp [h]
namespace Fm
variable {T : Tt} {n : Nat} {wl : List Nat}
theorem wq_mem {ls : List Nat} (h : Fm T n ls wl) (i : Nat) : i ∈ wq T 7 3 n ↔ i ∈ wl := by
  unfold wq
  simp only [List.mem_filter, List.mem_range, decide_eq_true_eq]
  constructor
  · rintro ⟨h1, h2, _⟩; exact (h.ws i h1).1 h2
  · intro hi
    have h1 : i < n := h.lt i (by simp [hi])
    exact ⟨h1, (h.ws i h1).2 hi, h.wo i hi⟩
theorem wq_other {ls : List Nat} (h : Fm T n ls wl) : wq T 7 2 n = [] := by
  unfold wq
  rw [List.filter_eq_nil_iff]
  intro i hi
  rw [List.mem_range] at hi
  simp only [decide_eq_true_eq]
  rintro ⟨h1, h2⟩
  have := h.wo i ((h.ws i hi).1 h1)
  omega
theorem wq_perm {ls : List Nat} (h : Fm T n ls wl) : (wq T 7 3 n).Perm wl := by
  refine (List.perm_ext_iff_of_nodup ?_ ?_).2 (fun i => h.wq_mem i)
  · exact List.Nodup.sublist List.filter_sublist List.nodup_range
  · exact (List.nodup_append.1 h.nd).2.1
/-- comparing two that wait -/
theorem cm {ls : List Nat} (h : Fm T n ls wl) {a b : Nat} (ha : a ∈ wl) (hb : b ∈ wl) : cmpP (T.ps a) (T.ps b) = sgn (T.ps a).pl (T.ps b).pl := by
  unfold cmpP
  rw [h.pr a (by simp [ha]), h.pr b (by simp [hb])]
  simp
theorem place_inj {ls : List Nat} (h : Fm T n ls wl) {a b : Nat} (ha : a ∈ wl) (hb : b ∈ wl) (e : (T.ps a).pl = (T.ps b).pl) : a = b := by
  have key : ∀ (l : List Nat), l.Pairwise (fun i j => (T.ps i).pl < (T.ps j).pl) → a ∈ l → b ∈ l → a = b := by
    intro l
    induction l with
    | nil => intro _ h1; cases h1
    | cons x r ih =>
      intro hp h1 h2
      obtain ⟨hp1, hp2⟩ := List.pairwise_cons.1 hp
      rcases List.mem_cons.1 h1 with rfl | h1'
      · rcases List.mem_cons.1 h2 with rfl | h2'
        · rfl
        · have := hp1 b h2'; omega
      · rcases List.mem_cons.1 h2 with rfl | h2'
        · have := hp1 a h1'; omega
        · exact ih hp2 h1' h2'
  exact key wl h.uw ha hb
/-- what is sorted by place is the line -/
theorem sorted {ls : List Nat} (h : Fm T n ls wl) {l : List Nat} (hp : l.Perm (wq T 7 3 n)) (hs : l.Pairwise (fun a b => ¬ cmpP (T.ps b) (T.ps a) < 0)) : l = wl := by
  have hpw : l.Perm wl := hp.trans h.wq_perm
  refine List.Perm.eq_of_pairwise (le := fun a b => (T.ps a).pl ≤ (T.ps b).pl) (fun a b ha hb h1 h2 => ?_) ?_ ?_ hpw
  · exact h.place_inj (hpw.mem_iff.1 ha) hb (by omega)
  · refine List.Pairwise.imp_of_mem (fun {a b} ha hb hab => ?_) hs
    rw [h.cm (hpw.mem_iff.1 hb) (hpw.mem_iff.1 ha)] at hab
    by_cases hlt : (T.ps b).pl < (T.ps a).pl
    · exact absurd (by unfold sgn; rw [if_pos hlt]; decide) hab
    · omega
  · exact List.Pairwise.imp (fun hab => by omega) h.uw
end Fm
end Go.Proofs.Ytofkacfchkimiaa
