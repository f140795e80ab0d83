/-
  What stands between the map and the slots. Plain.
-/
import Derived.Test.YtffgcijicmfmlaaGreatDoorWObj
namespace Go.Proofs.YtffgcijicmfmlaaGreatDoor
set_option linter.unusedVariables false

def Ok (n : Nat) (x : Fi) : Prop := (n : Int) ≤ x.t ∧ x.t < 1099511627776 ∧ 0 ≤ x.i ∧ x.i ≤ 65535
def slx (n : Nat) (x : Fi) : Nat := sl n x.t.toNat
theorem slx_lt (n : Nat) (x : Fi) : slx n x < 448 := sl_lt _ _
theorem Ok.tn {n : Nat} {x : Fi} (h : Ok n x) : n ≤ x.t.toNat ∧ x.t.toNat < 4398046511104 ∧ n < 4398046511104 ∧ ((x.t.toNat : Nat) : Int) = x.t := by
  unfold Ok at h
  omega

/-- the map tells the slots; pd: timers that the map knows and no slot holds -/
structure Iv (n : Nat) (M : Int → Option (Int × Int)) (S : Nat → List Fi) (pd : List Fi) : Prop where
  ok : ∀ k, k < 448 → ∀ x, x ∈ S k → Ok n x ∧ slx n x = k
  at' : ∀ k, k < 448 → ∀ (j : Nat) x, (S k)[j]? = some x → M x.i = some (x.t, (j : Int))
  pok : ∀ x, x ∈ pd → Ok n x
  pat : ∀ x, x ∈ pd → ∃ j, M x.i = some (x.t, j)
  pno : ∀ x, x ∈ pd → ∀ k, k < 448 → ∀ y, y ∈ S k → y.i ≠ x.i
  pnd : pd.Pairwise (fun x y => x.i ≠ y.i)
  back : ∀ i t j, M i = some (t, j) → (∃ jn : Nat, j = jn ∧ (S (sl n t.toNat))[jn]? = some ⟨t, i⟩) ∨ Fi.mk t i ∈ pd

theorem updM_same (M : Int → Option (Int × Int)) (x : Int) (v : Option (Int × Int)) : updM M x v x = v := if_pos rfl
theorem updM_ne (M : Int → Option (Int × Int)) {x y : Int} (v : Option (Int × Int)) (h : y ≠ x) : updM M x v y = M y := if_neg h
theorem mem_at {xs : List Fi} {x : Fi} (h : x ∈ xs) : ∃ j : Nat, xs[j]? = some x := by
  obtain ⟨j, hj, e⟩ := List.mem_iff_getElem.1 h
  exact ⟨j, by rw [List.getElem?_eq_getElem hj, e]⟩
theorem at_mem {xs : List Fi} {x : Fi} {j : Nat} (h : xs[j]? = some x) : x ∈ xs := List.mem_of_getElem? h

namespace Iv
variable {n : Nat} {M : Int → Option (Int × Int)} {S : Nat → List Fi} {pd pd0 : List Fi}
/-- one number, one timer -/
theorem uniq (h : Iv n M S pd) {k l : Nat} (hk : k < 448) (hl : l < 448) {i j : Nat} {x y : Fi} (hx : (S k)[i]? = some x) (hy : (S l)[j]? = some y) (e : x.i = y.i) : k = l ∧ i = j ∧ x = y := by
  have h1 := h.at' k hk i x hx
  have h2 := h.at' l hl j y hy
  rw [e, h2] at h1
  injection h1 with h1
  injection h1 with h1 h3
  have hxy : x = y := by cases x; cases y; simp only [Fi.mk.injEq]; exact ⟨h1.symm, e⟩
  subst hxy
  refine ⟨?_, by omega, rfl⟩
  rw [← (h.ok k hk x (at_mem hx)).2, ← (h.ok l hl x (at_mem hy)).2]
theorem lay (h : Iv n M S pd0) {x : Fi} (hx : Ok n x) (hs : ∀ k, k < 448 → ∀ y, y ∈ S k → y.i ≠ x.i) (h1 : ∀ y, y ∈ pd → y ∈ pd0 ∧ y.i ≠ x.i) (h2 : ∀ y, y ∈ pd0 → y.i = x.i ∨ y ∈ pd) (h3 : pd.Pairwise (fun x y => x.i ≠ y.i)) :
    Iv n (updM M x.i (some (x.t, ((S (slx n x)).length : Int)))) (updN S (slx n x) (S (slx n x) ++ [x])) pd := by
  have hm : ∀ k, k < 448 → ∀ y, y ∈ updN S (slx n x) (S (slx n x) ++ [x]) k → y ∈ S k ∨ (y = x ∧ k = slx n x) := by
    intro k hk y hy
    by_cases e : k = slx n x
    · subst e
      rw [updN_same] at hy
      rcases List.mem_append.1 hy with hy | hy
      · exact .inl hy
      · exact .inr ⟨List.mem_singleton.1 hy, rfl⟩
    · rw [updN_ne _ _ e] at hy
      exact .inl hy
  refine ⟨?_, ?_, fun y hy => h.pok y (h1 y hy).1, ?_, ?_, h3, ?_⟩
  · intro k hk y hy
    rcases hm k hk y hy with hy | ⟨rfl, rfl⟩
    · exact h.ok k hk y hy
    · exact ⟨hx, rfl⟩
  · intro k hk j y hj
    by_cases e : k = slx n x
    · subst e
      rw [updN_same] at hj
      by_cases hl : j < (S (slx n x)).length
      · rw [List.getElem?_append_left hl] at hj
        rw [updM_ne _ _ (hs _ hk y (at_mem hj))]
        exact h.at' _ hk j y hj
      · rw [List.getElem?_append_right (by omega)] at hj
        have hj0 : j - (S (slx n x)).length = 0 := by
          apply Decidable.byContradiction
          intro hne
          rw [List.getElem?_eq_none (by simp; omega)] at hj
          cases hj
        rw [hj0] at hj
        simp at hj
        subst hj
        rw [updM_same, show j = (S (slx n x)).length by omega]
    · rw [updN_ne _ _ e] at hj
      rw [updM_ne _ _ (hs k hk y (at_mem hj))]
      exact h.at' k hk j y hj
  · intro y hy
    rw [updM_ne _ _ (h1 y hy).2]
    exact h.pat y (h1 y hy).1
  · intro y hy k hk z hz
    rcases hm k hk z hz with hz | ⟨rfl, _⟩
    · exact h.pno y (h1 y hy).1 k hk z hz
    · exact fun e => (h1 y hy).2 e.symm
  · intro i t j hi
    by_cases e : i = x.i
    · subst e
      rw [updM_same] at hi
      injection hi with hi
      injection hi with e1 e2
      subst e1 e2
      refine .inl ⟨(S (slx n x)).length, rfl, ?_⟩
      show (updN S (slx n x) (S (slx n x) ++ [x]) (slx n x))[(S (slx n x)).length]? = _
      rw [updN_same, List.getElem?_append_right (Nat.le_refl _), Nat.sub_self]
      rfl
    · rw [updM_ne _ _ e] at hi
      rcases h.back i t j hi with ⟨jn, rfl, hj⟩ | hp
      · refine .inl ⟨jn, rfl, ?_⟩
        by_cases ek : sl n t.toNat = slx n x
        · rw [ek, updN_same]
          rw [ek] at hj
          have hlt : jn < (S (slx n x)).length := by
            apply Decidable.byContradiction
            intro hne
            rw [List.getElem?_eq_none (by omega)] at hj
            cases hj
          rw [List.getElem?_append_left hlt]
          exact hj
        · rw [updN_ne _ _ ek]
          exact hj
      · rcases h2 _ hp with e2 | hp
        · exact absurd e2 e
        · exact .inr hp
/-- a timer that waits is laid -/
theorem lay_p {x : Fi} (h : Iv n M S (x :: pd)) : Iv n (updM M x.i (some (x.t, ((S (slx n x)).length : Int)))) (updN S (slx n x) (S (slx n x) ++ [x])) pd :=
  h.lay (h.pok x List.mem_cons_self) (h.pno x List.mem_cons_self) (fun y hy => ⟨List.mem_cons_of_mem _ hy, fun e => (List.pairwise_cons.1 h.pnd).1 y hy e.symm⟩) (fun y hy => by rcases List.mem_cons.1 hy with rfl | hy; exact .inl rfl; exact .inr hy) (List.pairwise_cons.1 h.pnd).2
/-- a new timer is laid -/
theorem lay_f {x : Fi} (h : Iv n M S []) (hx : Ok n x) (hn : M x.i = none) : Iv n (updM M x.i (some (x.t, ((S (slx n x)).length : Int)))) (updN S (slx n x) (S (slx n x) ++ [x])) [] :=
  h.lay hx (fun k hk y hy e => by
    obtain ⟨j, hj⟩ := mem_at hy
    have := h.at' k hk j y hj
    rw [e, hn] at this
    cases this) (fun y hy => by cases hy) (fun y hy => by cases hy) List.Pairwise.nil
/-- a timer that waits is forgotten -/
theorem drop {x : Fi} (h : Iv n M S (x :: pd)) : Iv n (updM M x.i none) S pd := by
  have hne : ∀ y, y ∈ pd → y.i ≠ x.i := fun y hy e => (List.pairwise_cons.1 h.pnd).1 y hy e.symm
  refine ⟨h.ok, ?_, fun y hy => h.pok y (List.mem_cons_of_mem _ hy), ?_, fun y hy => h.pno y (List.mem_cons_of_mem _ hy), (List.pairwise_cons.1 h.pnd).2, ?_⟩
  · intro k hk j y hj
    rw [updM_ne _ _ (h.pno x List.mem_cons_self k hk y (at_mem hj))]
    exact h.at' k hk j y hj
  · intro y hy
    rw [updM_ne _ _ (hne y hy)]
    exact h.pat y (List.mem_cons_of_mem _ hy)
  · intro i t j hi
    by_cases e : i = x.i
    · subst e; rw [updM_same] at hi; cases hi
    · rw [updM_ne _ _ e] at hi
      rcases h.back i t j hi with h1 | h1
      · exact .inl h1
      · rcases List.mem_cons.1 h1 with h1 | h1
        · exact absurd (by rw [← h1]) e
        · exact .inr h1
theorem cut_at (xs : List Fi) (p m j : Nat) (y : Fi) (hm : xs.length = m + 1) : ((xs.set p y).take m)[j]? = if j < m then (if p = j then some y else xs[j]?) else none := by
  rw [List.getElem?_take]
  by_cases hj : j < m
  · rw [if_pos hj, if_pos hj, List.getElem?_set]
    by_cases e : p = j
    · rw [if_pos e, if_pos e, if_pos (by omega)]
    · rw [if_neg e, if_neg e]
  · rw [if_neg hj, if_neg hj]
/-- a timer is taken out, the last one of its slot in its place -/
theorem cut (h : Iv n M S pd) {k p m : Nat} {z y : Fi} (hk : k < 448) (hz : (S k)[p]? = some z) (hm : (S k).length = m + 1) (hy : (S k)[m]? = some y) :
    Iv n (updM (updM M y.i (some (y.t, (p : Int)))) z.i none) (updN S k (((S k).set p y).take m)) pd := by
  have hpm : p ≤ m := by
    apply Decidable.byContradiction
    intro hne
    rw [List.getElem?_eq_none (by omega)] at hz
    cases hz
  -- what is left: its place of old
  have old : ∀ l, l < 448 → ∀ (j : Nat) x, (updN S k (((S k).set p y).take m) l)[j]? = some x → x ∈ S l ∧ x.i ≠ z.i ∧ (updM (updM M y.i (some (y.t, (p : Int)))) z.i none) x.i = some (x.t, (j : Int)) := by
    intro l hl j x hj
    by_cases e : l = k
    · subst e
      rw [updN_same, cut_at _ _ _ _ _ hm] at hj
      by_cases hjm : j < m
      · rw [if_pos hjm] at hj
        by_cases ep : p = j
        · rw [if_pos ep] at hj
          injection hj with hj
          subst hj ep
          have hne : y.i ≠ z.i := fun e => by have := (h.uniq hk hk hy hz e).2.1; omega
          exact ⟨at_mem hy, hne, by rw [updM_ne _ _ hne, updM_same]⟩
        · rw [if_neg ep] at hj
          have hne : x.i ≠ z.i := fun e => by have := (h.uniq hk hk hj hz e).2.1; omega
          have hne2 : x.i ≠ y.i := fun e => by have := (h.uniq hk hk hj hy e).2.1; omega
          exact ⟨at_mem hj, hne, by rw [updM_ne _ _ hne, updM_ne _ _ hne2]; exact h.at' l hl j x hj⟩
      · rw [if_neg hjm] at hj; cases hj
    · rw [updN_ne _ _ e] at hj
      have hne : x.i ≠ z.i := fun e2 => e (h.uniq hl hk hj hz e2).1
      have hne2 : x.i ≠ y.i := fun e2 => e (h.uniq hl hk hj hy e2).1
      exact ⟨at_mem hj, hne, by rw [updM_ne _ _ hne, updM_ne _ _ hne2]; exact h.at' l hl j x hj⟩
  have oldm : ∀ l, l < 448 → ∀ x, x ∈ updN S k (((S k).set p y).take m) l → x ∈ S l := fun l hl x hx => by
    obtain ⟨j, hj⟩ := mem_at hx
    exact (old l hl j x hj).1
  refine ⟨fun l hl x hx => h.ok l hl x (oldm l hl x hx), fun l hl j x hj => (old l hl j x hj).2.2, h.pok, ?_, fun x hx l hl z hz => h.pno x hx l hl z (oldm l hl z hz), h.pnd, ?_⟩
  · intro x hx
    have e1 : x.i ≠ z.i := fun e => h.pno x hx k hk z (at_mem hz) e.symm
    have e2 : x.i ≠ y.i := fun e => h.pno x hx k hk y (at_mem hy) e.symm
    rw [updM_ne _ _ e1, updM_ne _ _ e2]
    exact h.pat x hx
  · intro i t j hi
    by_cases e : i = z.i
    · subst e; rw [updM_same] at hi; cases hi
    · rw [updM_ne _ _ e] at hi
      by_cases e2 : i = y.i
      · subst e2
        rw [updM_same] at hi
        injection hi with hi
        injection hi with e3 e4
        subst e3 e4
        have hpm' : p < m := by
          apply Decidable.byContradiction
          intro hne
          have : p = m := by omega
          subst this
          rw [hz] at hy
          injection hy with hy
          exact e (by rw [hy])
        refine .inl ⟨p, rfl, ?_⟩
        have hsl : sl n y.t.toNat = k := (h.ok k hk y (at_mem hy)).2
        rw [hsl, updN_same, cut_at _ _ _ _ _ hm, if_pos hpm', if_pos rfl]
      · rw [updM_ne _ _ e2] at hi
        rcases h.back i t j hi with ⟨jn, rfl, hj⟩ | hp
        · refine .inl ⟨jn, rfl, ?_⟩
          by_cases ek : sl n t.toNat = k
          · rw [ek, updN_same, cut_at _ _ _ _ _ hm]
            rw [ek] at hj
            have hlt : jn < m + 1 := by
              apply Decidable.byContradiction
              intro hne
              rw [List.getElem?_eq_none (by omega)] at hj
              cases hj
            have hnm : jn ≠ m := fun e5 => by
              subst e5
              rw [hy] at hj
              injection hj with hj
              exact e2 (by rw [hj])
            have hnp : p ≠ jn := fun e5 => by
              subst e5
              rw [hz] at hj
              injection hj with hj
              exact e (by rw [hj])
            rw [if_pos (by omega), if_neg hnp]
            exact hj
          · rw [updN_ne _ _ ek]
            exact hj
        · exact .inr hp
/-- the wheel comes to the first slot: its timers wait -/
theorem come (h : Iv n M S []) {k : Nat} (hk : k < 448) {s : Fi} (hs : s ∈ S k) (h0 : ∀ j, j < k → S j = []) : Iv (bg n k) M (updN S k []) (S k) := by
  obtain ⟨oks, es⟩ := h.ok k hk s hs
  obtain ⟨s1, s2, s3, s4⟩ := oks.tn
  have far : ∀ l, l < 448 → ∀ x, x ∈ updN S k [] l → x ∈ S l ∧ k < l := by
    intro l hl x hx
    by_cases e : l = k
    · subst e; rw [updN_same] at hx; cases hx
    · rw [updN_ne _ _ e] at hx
      refine ⟨hx, ?_⟩
      apply Decidable.byContradiction
      intro hne
      rw [h0 l (by omega)] at hx
      cases hx
  have hbg : bg n k ≤ s.t.toNat := by
    have := bg_le s3 s2
    rw [show sl n s.t.toNat = k from es] at this
    exact this
  refine ⟨?_, ?_, ?_, ?_, ?_, ?_, ?_⟩
  · intro l hl x hx
    obtain ⟨hx, hkl⟩ := far l hl x hx
    obtain ⟨okx, ex⟩ := h.ok l hl x hx
    obtain ⟨x1, x2, x3, x4⟩ := okx.tn
    have hlt : sl n s.t.toNat < sl n x.t.toNat := by rw [show sl n s.t.toNat = k from es, show sl n x.t.toNat = l from ex]; exact hkl
    have ho := slot_order_lt s3 s2 x2 s1 x1 hlt
    have hn2 := sl_next hlt
    rw [show sl n s.t.toNat = k from es] at hn2
    refine ⟨⟨by omega, okx.2.1, okx.2.2⟩, ?_⟩
    show sl (bg n k) x.t.toNat = l
    rw [hn2]
    exact ex
  · intro l hl j x hj
    by_cases e : l = k
    · subst e; rw [updN_same] at hj; cases hj
    · rw [updN_ne _ _ e] at hj
      exact h.at' l hl j x hj
  · intro x hx
    obtain ⟨okx, ex⟩ := h.ok k hk x hx
    obtain ⟨x1, x2, x3, x4⟩ := okx.tn
    have := bg_le s3 x2
    rw [show sl n x.t.toNat = k from ex] at this
    exact ⟨by omega, okx.2.1, okx.2.2⟩
  · intro x hx
    obtain ⟨j, hj⟩ := mem_at hx
    exact ⟨j, h.at' k hk j x hj⟩
  · intro x hx l hl y hy e
    obtain ⟨hy, hkl⟩ := far l hl y hy
    obtain ⟨j, hj⟩ := mem_at hx
    obtain ⟨i, hi⟩ := mem_at hy
    have := (h.uniq hl hk hi hj e).1
    omega
  · rw [List.pairwise_iff_getElem]
    intro i j hi hj hij e
    have := (h.uniq hk hk (List.getElem?_eq_getElem hi) (List.getElem?_eq_getElem hj) e).2.1
    omega
  · intro i t j hi
    rcases h.back i t j hi with ⟨jn, rfl, hj⟩ | hp
    · by_cases e : sl n t.toNat = k
      · rw [e] at hj
        exact .inr (at_mem hj)
      · have hmem := at_mem hj
        have hkl : k < sl n t.toNat := by
          apply Decidable.byContradiction
          intro hne
          rw [h0 _ (by omega)] at hmem
          cases hmem
        have hn2 := sl_next (n := n) (s := s.t.toNat) (t := t.toNat) (by rw [show sl n s.t.toNat = k from es]; exact hkl)
        rw [show sl n s.t.toNat = k from es] at hn2
        refine .inl ⟨jn, rfl, ?_⟩
        rw [hn2, updN_ne _ _ e]
        exact hj
    · cases hp
/-- the wheel goes on to a tick ahead of the first slot -/
theorem stay (h : Iv n M S []) {to : Nat} (hle : n ≤ to) (hto : ∀ k, k < 448 → S k ≠ [] → (∀ j, j < k → S j = []) → to < bg n k) : Iv to M S [] := by
  by_cases hall : ∀ k, k < 448 → S k = []
  · refine ⟨?_, ?_, (fun x hx => by cases hx), (fun x hx => by cases hx), (fun x hx => by cases hx), List.Pairwise.nil, ?_⟩
    · intro k hk x hx; rw [hall k hk] at hx; cases hx
    · intro k hk j x hx; rw [hall k hk] at hx; cases hx
    · intro i t j hi
      rcases h.back i t j hi with ⟨jn, rfl, hj⟩ | hp
      · rw [hall _ (sl_lt _ _)] at hj; cases hj
      · cases hp
  · -- the first slot
    obtain ⟨k, hk, hne, h0⟩ : ∃ k, k < 448 ∧ S k ≠ [] ∧ ∀ j, j < k → S j = [] := by
      have : ∃ k, k < 448 ∧ S k ≠ [] := by
        apply Decidable.byContradiction
        intro hn
        apply hall
        intro k hk
        apply Decidable.byContradiction
        intro hk2
        exact hn ⟨k, hk, hk2⟩
      obtain ⟨k, hk, hne⟩ := this
      induction k using Nat.strongRecOn with
      | _ k ih =>
        by_cases h1 : ∀ j, j < k → S j = []
        · exact ⟨k, hk, hne, h1⟩
        · have : ∃ j, j < k ∧ S j ≠ [] := by
            apply Decidable.byContradiction
            intro hn
            apply h1
            intro j hj
            apply Decidable.byContradiction
            intro hj2
            exact hn ⟨j, hj, hj2⟩
          obtain ⟨j, hj, hj2⟩ := this
          exact ih j hj (by omega) hj2
    have hb := hto k hk hne h0
    obtain ⟨s, hs⟩ := List.exists_mem_of_ne_nil _ hne
    obtain ⟨oks, es⟩ := h.ok k hk s hs
    obtain ⟨s1, s2, s3, s4⟩ := oks.tn
    have key : ∀ l, l < 448 → ∀ x, x ∈ S l → Ok to x ∧ slx to x = l := by
      intro l hl x hx
      obtain ⟨okx, ex⟩ := h.ok l hl x hx
      obtain ⟨x1, x2, x3, x4⟩ := okx.tn
      have hkl : k ≤ l := by
        apply Decidable.byContradiction
        intro hn
        rw [h0 l (by omega)] at hx
        cases hx
      have hst := sl_stay (n := n) (s := s.t.toNat) (t := x.t.toNat) (to := to) hle (by rw [show sl n s.t.toNat = k from es]; exact hb) (by rw [show sl n s.t.toNat = k from es, show sl n x.t.toNat = l from ex]; exact hkl)
      have hbl : bg n k ≤ x.t.toNat := by
        by_cases e : k = l
        · subst e
          have := bg_le s3 x2
          rw [show sl n x.t.toNat = k from ex] at this
          exact this
        · have h5 := slot_order_lt s3 s2 x2 s1 x1 (by rw [show sl n s.t.toNat = k from es, show sl n x.t.toNat = l from ex]; omega)
          have h6 := bg_le s3 s2
          rw [show sl n s.t.toNat = k from es] at h6
          omega
      exact ⟨⟨by omega, okx.2.1, okx.2.2⟩, by show sl to x.t.toNat = l; rw [hst]; exact ex⟩
    refine ⟨key, h.at', (fun x hx => by cases hx), (fun x hx => by cases hx), (fun x hx => by cases hx), List.Pairwise.nil, ?_⟩
    intro i t j hi
    rcases h.back i t j hi with ⟨jn, rfl, hj⟩ | hp
    · have := (key _ (sl_lt _ _) _ (at_mem hj)).2
      refine .inl ⟨jn, rfl, ?_⟩
      rw [show sl to t.toNat = sl n t.toNat from this]
      exact hj
    · cases hp
end Iv

end Go.Proofs.YtffgcijicmfmlaaGreatDoor
