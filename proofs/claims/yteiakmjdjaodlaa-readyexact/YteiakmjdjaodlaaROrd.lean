/-
  Entries, their order, a heap with a gap, and the sorted list: no dump.
-/
import Derived.WalkKit
namespace Go.Proofs.Yteiakmjdjaodlaa
set_option linter.unusedVariables false

structure En where
  id : Int
  pr : Int
  pl : Int

theorem En.ext' {a b : En} (h1 : a.id = b.id) (h2 : a.pr = b.pr) (h3 : a.pl = b.pl) : a = b := by
  cases a; cases b; simp at h1 h2 h3; simp [h1, h2, h3]
def En0 : En := ⟨0, 0, 0⟩
def lt' (e f : En) : Prop := f.pr < e.pr ∨ (e.pr = f.pr ∧ e.pl < f.pl)
instance (e f : En) : Decidable (lt' e f) := by unfold lt'; infer_instance
theorem lt'.trans {a b c : En} (h : lt' a b) (k : lt' b c) : lt' a c := by unfold lt' at *; omega
theorem lt'.irr (a : En) : ¬ lt' a a := by unfold lt'; omega
theorem lt'.asymm {a b : En} (h : lt' a b) : ¬ lt' b a := by unfold lt' at *; omega
theorem lt'.total {a b : En} (h : a.pl ≠ b.pl) : lt' a b ∨ lt' b a := by unfold lt'; omega

def cmp3 (x y : Int) : Int := if x < y then -1 else if x > y then 1 else 0
def cmpE (e f : En) : Int := if e.pr ≠ f.pr then cmp3 f.pr e.pr else cmp3 e.pl f.pl
theorem cmpE_lt {e f : En} : cmpE e f < 0 ↔ lt' e f := by
  unfold cmpE cmp3 lt'
  split <;> split <;> (try split) <;> constructor <;> intro h <;> omega
theorem cmpE_gt {e f : En} : cmpE e f > 0 ↔ lt' f e := by
  unfold cmpE cmp3 lt'
  split <;> split <;> (try split) <;> constructor <;> intro h <;> omega

/-- a function turned at one place -/
def up' (h : Nat → En) (a : Nat) (x : En) : Nat → En := fun i => if i = a then x else h i
def updM (M : Int → Option Int) (x : Int) (v : Option Int) : Int → Option Int := fun y => if y = x then v else M y
theorem up_same (h : Nat → En) (a : Nat) (x : En) : up' h a x a = x := by unfold up'; rw [if_pos rfl]
theorem up_ne {h : Nat → En} {a i : Nat} {x : En} (hi : i ≠ a) : up' h a x i = h i := by unfold up'; rw [if_neg hi]
theorem updM_same (M : Int → Option Int) (x : Int) (v : Option Int) : updM M x v x = v := by unfold updM; rw [if_pos rfl]
theorem updM_ne {M : Int → Option Int} {x y : Int} {v : Option Int} (h : y ≠ x) : updM M x v y = M y := by unfold updM; rw [if_neg h]

/-- no two of one place, none of one number -/
def Cu (C : En → Prop) : Prop := ∀ x y, C x → C y → (x.pl = y.pl ∨ x.id = y.id) → x = y

structure Full (h : Nat → En) (n : Nat) (M : Int → Option Int) (C : En → Prop) : Prop where
  ord : ∀ i, 0 < i → i < n → lt' (h ((i - 1) / 2)) (h i)
  map1 : ∀ i, i < n → M (h i).id = some (i : Int)
  map2 : ∀ x j, M x = some j → ∃ k : Nat, k < n ∧ j = (k : Int) ∧ (h k).id = x
  mem : ∀ x, C x ↔ ∃ i, i < n ∧ h i = x

structure Gap (h : Nat → En) (n a : Nat) (M : Int → Option Int) (e : En) (C : En → Prop) : Prop where
  at_lt : a < n
  ord : ∀ i, 0 < i → i < n → i ≠ a → (i - 1) / 2 ≠ a → lt' (h ((i - 1) / 2)) (h i)
  up : ∀ i, 0 < i → i < n → (i - 1) / 2 = a → 0 < a → lt' (h ((a - 1) / 2)) (h i)
  map1 : ∀ i, i < n → i ≠ a → M (h i).id = some (i : Int)
  map2 : ∀ x j, x ≠ e.id → M x = some j → ∃ k : Nat, k < n ∧ k ≠ a ∧ j = (k : Int) ∧ (h k).id = x
  mem : ∀ x, C x ↔ x = e ∨ ∃ i, i < n ∧ i ≠ a ∧ h i = x
  ne : ∀ i, i < n → i ≠ a → (h i).id ≠ e.id

def Low (h : Nat → En) (n a : Nat) (e : En) : Prop := ∀ i, 0 < i → i < n → (i - 1) / 2 = a → lt' e (h i)

variable {h h' : Nat → En} {n a b : Nat} {M : Int → Option Int} {e : En} {C C' : En → Prop}

theorem Full.congr (k : Full h n M C) (hh : ∀ i, i < n → h i = h' i) (hC : ∀ x, C x ↔ C' x) : Full h' n M C' where
  ord i h0 hi := by rw [← hh i hi, ← hh _ (by omega)]; exact k.ord i h0 hi
  map1 i hi := by rw [← hh i hi]; exact k.map1 i hi
  map2 x j hx := by obtain ⟨m, h1, h2, h3⟩ := k.map2 x j hx; exact ⟨m, h1, h2, by rw [← hh m h1]; exact h3⟩
  mem x := by
    rw [← hC, k.mem]
    constructor
    · rintro ⟨i, hi, rfl⟩; exact ⟨i, hi, (hh i hi).symm⟩
    · rintro ⟨i, hi, rfl⟩; exact ⟨i, hi, hh i hi⟩
theorem Gap.congr (k : Gap h n a M e C) (hh : ∀ i, i < n → h i = h' i) (hC : ∀ x, C x ↔ C' x) : Gap h' n a M e C' where
  at_lt := k.at_lt
  ord i h0 hi h1 h2 := by rw [← hh i hi, ← hh _ (by omega)]; exact k.ord i h0 hi h1 h2
  up i h0 hi h1 h2 := by rw [← hh i hi, ← hh _ (by have := k.at_lt; omega)]; exact k.up i h0 hi h1 h2
  map1 i hi h1 := by rw [← hh i hi]; exact k.map1 i hi h1
  map2 x j hx hm := by obtain ⟨m, h1, h2, h3, h4⟩ := k.map2 x j hx hm; exact ⟨m, h1, h2, h3, by rw [← hh m h1]; exact h4⟩
  mem x := by
    rw [← hC, k.mem]
    constructor
    · rintro (r | ⟨i, hi, h1, rfl⟩)
      · exact .inl r
      · exact .inr ⟨i, hi, h1, (hh i hi).symm⟩
    · rintro (r | ⟨i, hi, h1, rfl⟩)
      · exact .inl r
      · exact .inr ⟨i, hi, h1, hh i hi⟩
  ne i hi h1 := by rw [← hh i hi]; exact k.ne i hi h1

/-- laying another into the gap moves the gap -/
theorem Gap.moved (k : Gap h n a M e C) (hb : b < n) (hba : b ≠ a) (h1 : ∀ i, 0 < i → i < n → i ≠ b → (i - 1) / 2 ≠ b → lt' (up' h a (h b) ((i - 1) / 2)) (up' h a (h b) i)) (h2 : ∀ i, 0 < i → i < n → (i - 1) / 2 = b → 0 < b → lt' (up' h a (h b) ((b - 1) / 2)) (up' h a (h b) i)) : Gap (up' h a (h b)) n b (updM M (h b).id (some (a : Int))) e C where
  at_lt := hb
  ord := h1
  up := h2
  map1 i hi hib := by
    by_cases hia : i = a
    · subst hia; rw [up_same, updM_same]
    · rw [up_ne hia, updM_ne]
      · exact k.map1 i hi hia
      · intro he
        have q1 := k.map1 i hi hia
        have q2 := k.map1 b hb hba
        rw [he, q2] at q1
        injection q1 with q1
        omega
  map2 x j hx hm := by
    by_cases hxe : x = (h b).id
    · subst hxe
      rw [updM_same] at hm
      injection hm with hm
      exact ⟨a, k.at_lt, fun e => hba e.symm, hm.symm, by rw [up_same]⟩
    · rw [updM_ne hxe] at hm
      obtain ⟨m, q1, q2, q3, q4⟩ := k.map2 x j hx hm
      refine ⟨m, q1, fun e => ?_, q3, by rw [up_ne q2]; exact q4⟩
      subst e
      exact hxe q4.symm
  mem x := by
    rw [k.mem]
    constructor
    · rintro (r | ⟨i, hi, hia, rfl⟩)
      · exact .inl r
      · by_cases hib : i = b
        · subst hib; exact .inr ⟨a, k.at_lt, fun e => hba e.symm, up_same _ _ _⟩
        · exact .inr ⟨i, hi, hib, up_ne hia⟩
    · rintro (r | ⟨i, hi, hib, rfl⟩)
      · exact .inl r
      · by_cases hia : i = a
        · subst hia; rw [up_same]; exact .inr ⟨b, hb, hba, rfl⟩
        · rw [up_ne hia]; exact .inr ⟨i, hi, hia, rfl⟩
  ne i hi hib := by
    by_cases hia : i = a
    · subst hia; rw [up_same]; exact k.ne b hb hba
    · rw [up_ne hia]; exact k.ne i hi hia

theorem Gap.rise (k : Gap h n a M e C) (h0 : 0 < a) (hl : lt' e (h ((a - 1) / 2))) (low : Low h n a e) : Gap (up' h a (h ((a - 1) / 2))) n ((a - 1) / 2) (updM M (h ((a - 1) / 2)).id (some (a : Int))) e C ∧ Low (up' h a (h ((a - 1) / 2))) n ((a - 1) / 2) e := by
  have hn := k.at_lt
  refine ⟨k.moved (by omega) (by omega) (fun i i0 hi hib hpb => ?_) (fun i i0 hi hib hpb => ?_), fun i i0 hi hib => ?_⟩
  · have hia : i ≠ a := by omega
    rw [up_ne hia]
    by_cases hpa : (i - 1) / 2 = a
    · rw [hpa, up_same]; exact k.up i i0 hi hpa h0
    · rw [up_ne hpa]; exact k.ord i i0 hi hia hpa
  · rw [up_ne (by omega)]
    have q := k.ord ((a - 1) / 2) hpb (by omega) (by omega) (by omega)
    by_cases hia : i = a
    · subst hia; rw [up_same]; exact q
    · rw [up_ne hia]
      have q2 := k.ord i i0 hi hia (by omega)
      rw [hib] at q2
      exact q.trans q2
  · by_cases hia : i = a
    · subst hia; rw [up_same]; exact hl
    · rw [up_ne hia]
      have q2 := k.ord i i0 hi hia (by omega)
      rw [hib] at q2
      exact hl.trans q2

theorem Gap.sink (k : Gap h n a M e C) (hb : b < n) (h0 : 0 < b) (hp : (b - 1) / 2 = a) (hs : ∀ i, 0 < i → i < n → (i - 1) / 2 = a → i ≠ b → lt' (h b) (h i)) : Gap (up' h a (h b)) n b (updM M (h b).id (some (a : Int))) e C := by
  refine k.moved hb (by omega) (fun i i0 hi hib hpb => ?_) (fun i i0 hi hib _ => ?_)
  · by_cases hia : i = a
    · subst hia; rw [up_same, up_ne (by omega)]; exact k.up b h0 hb hp i0
    · rw [up_ne hia]
      by_cases hpa : (i - 1) / 2 = a
      · rw [hpa, up_same]; exact hs i i0 hi hpa hib
      · rw [up_ne hpa]; exact k.ord i i0 hi hia hpa
  · rw [hp, up_same, up_ne (by omega)]
    have := k.ord i i0 hi (by omega) (by omega)
    rw [hib] at this
    exact this

theorem Gap.done (k : Gap h n a M e C) (low : Low h n a e) (hu : 0 < a → lt' (h ((a - 1) / 2)) e) : Full (up' h a e) n (updM M e.id (some (a : Int))) C where
  ord i i0 hi := by
    by_cases hia : i = a
    · subst hia; rw [up_same, up_ne (by omega)]; exact hu i0
    · rw [up_ne hia]
      by_cases hpa : (i - 1) / 2 = a
      · rw [hpa, up_same]; exact low i i0 hi hpa
      · rw [up_ne hpa]; exact k.ord i i0 hi hia hpa
  map1 i hi := by
    by_cases hia : i = a
    · subst hia; rw [up_same, updM_same]
    · rw [up_ne hia, updM_ne (k.ne i hi hia)]; exact k.map1 i hi hia
  map2 x j hm := by
    by_cases hx : x = e.id
    · subst hx; rw [updM_same] at hm; injection hm with hm; exact ⟨a, k.at_lt, hm.symm, by rw [up_same]⟩
    · rw [updM_ne hx] at hm
      obtain ⟨m, q1, q2, q3, q4⟩ := k.map2 x j hx hm
      exact ⟨m, q1, q3, by rw [up_ne q2]; exact q4⟩
  mem x := by
    rw [k.mem]
    constructor
    · rintro (rfl | ⟨i, hi, hia, rfl⟩)
      · exact ⟨a, k.at_lt, up_same _ _ _⟩
      · exact ⟨i, hi, up_ne hia⟩
    · rintro ⟨i, hi, rfl⟩
      by_cases hia : i = a
      · subst hia; rw [up_same]; exact .inl rfl
      · rw [up_ne hia]; exact .inr ⟨i, hi, hia, rfl⟩

theorem Full.first (k : Full h n M C) : ∀ i, i < n → i = 0 ∨ lt' (h 0) (h i) := by
  intro i
  induction i using Nat.strongRecOn with
  | ind i ih =>
    intro hi
    by_cases h0 : i = 0
    · exact .inl h0
    · have q := k.ord i (by omega) hi
      rcases ih ((i - 1) / 2) (by omega) (by omega) with e | e
      · rw [e] at q; exact .inr q
      · exact .inr (e.trans q)
theorem Full.inj (k : Full h n M C) {i j : Nat} (hi : i < n) (hj : j < n) (he : (h i).id = (h j).id) : i = j := by
  have q1 := k.map1 i hi
  have q2 := k.map1 j hj
  rw [he, q2] at q1
  injection q1 with q1
  omega
/-- a number leaves: the last one fills the gap -/
theorem Full.cut (k : Full h n M C) {c : Nat} (hc : c + 1 < n) : Gap h (n - 1) c (updM M (h c).id none) (h (n - 1)) (fun x => C x ∧ x.id ≠ (h c).id) where
  at_lt := by omega
  ord i i0 hi _ _ := k.ord i i0 (by omega)
  up i i0 hi hp h0 := by
    have q1 := k.ord i i0 (by omega)
    have q2 := k.ord c h0 (by omega)
    rw [hp] at q1
    exact q2.trans q1
  map1 i hi hic := by rw [updM_ne (fun e => hic (k.inj (by omega) (by omega) e))]; exact k.map1 i (by omega)
  map2 x j hx hm := by
    by_cases hxc : x = (h c).id
    · subst hxc; rw [updM_same] at hm; cases hm
    · rw [updM_ne hxc] at hm
      obtain ⟨m, q1, q2, q3⟩ := k.map2 x j hm
      refine ⟨m, ?_, fun e => hxc (by rw [← q3, e]), q2, q3⟩
      apply Decidable.byContradiction
      intro hn
      have : m = n - 1 := by omega
      subst this
      exact hx q3.symm
  mem x := by
    constructor
    · rintro ⟨hC, hne⟩
      obtain ⟨i, hi, rfl⟩ := (k.mem x).1 hC
      by_cases hin : i = n - 1
      · subst hin; exact .inl rfl
      · exact .inr ⟨i, by omega, fun e => hne (by rw [e]), rfl⟩
    · rintro (rfl | ⟨i, hi, hic, rfl⟩)
      · exact ⟨(k.mem _).2 ⟨n - 1, by omega, rfl⟩, fun e => by have := k.inj (by omega) (by omega) e; omega⟩
      · exact ⟨(k.mem _).2 ⟨i, by omega, rfl⟩, fun e => hic (k.inj (by omega) (by omega) e)⟩
  ne i hi hic e := by have := k.inj (i := i) (j := n - 1) (by omega) (by omega) e; omega
theorem Full.cutLast (k : Full h n M C) (hn : 0 < n) : Full h (n - 1) (updM M (h (n - 1)).id none) (fun x => C x ∧ x.id ≠ (h (n - 1)).id) where
  ord i i0 hi := k.ord i i0 (by omega)
  map1 i hi := by rw [updM_ne (fun e => by have := k.inj (i := i) (j := n - 1) (by omega) (by omega) e; omega)]; exact k.map1 i (by omega)
  map2 x j hm := by
    by_cases hxc : x = (h (n - 1)).id
    · subst hxc; rw [updM_same] at hm; cases hm
    · rw [updM_ne hxc] at hm
      obtain ⟨m, q1, q2, q3⟩ := k.map2 x j hm
      refine ⟨m, ?_, q2, q3⟩
      apply Decidable.byContradiction
      intro hh
      have : m = n - 1 := by omega
      subst this
      exact hxc q3.symm
  mem x := by
    constructor
    · rintro ⟨hC, hne⟩
      obtain ⟨i, hi, rfl⟩ := (k.mem x).1 hC
      exact ⟨i, Nat.lt_of_le_of_ne (by omega) (fun e => hne (by rw [e])), rfl⟩
    · rintro ⟨i, hi, rfl⟩
      exact ⟨(k.mem _).2 ⟨i, by omega, rfl⟩, fun e => by have := k.inj (i := i) (j := n - 1) (by omega) (by omega) e; omega⟩
/-- one comes in, at the end -/
theorem Full.add (k : Full h n M C) (e : En) (hM : M e.id = none) : Gap (up' h n e) (n + 1) n M e (fun x => C x ∨ x = e) ∧ Low (up' h n e) (n + 1) n e := by
  refine ⟨⟨by omega, fun i i0 hi hin hp => ?_, fun i i0 hi hp _ => by omega, fun i hi hin => ?_, fun x j hx hm => ?_, fun x => ?_, fun i hi hin he => ?_⟩, fun i i0 hi hp => by omega⟩
  · rw [up_ne hin, up_ne hp]; exact k.ord i i0 (by omega)
  · rw [up_ne hin]; exact k.map1 i (by omega)
  · obtain ⟨m, q1, q2, q3⟩ := k.map2 x j hm
    exact ⟨m, by omega, by omega, q2, by rw [up_ne (by omega)]; exact q3⟩
  · rw [k.mem]
    constructor
    · rintro (⟨i, hi, rfl⟩ | r)
      · exact .inr ⟨i, by omega, by omega, up_ne (by omega)⟩
      · exact .inl r
    · rintro (r | ⟨i, hi, hin, rfl⟩)
      · exact .inr r
      · exact .inl ⟨i, by omega, (up_ne hin).symm⟩
  · rw [up_ne hin] at he
    have := k.map1 i (by omega)
    rw [he, hM] at this
    cases this

/-- the sorted list -/
def Srt (S : List En) : Prop := S.Pairwise lt'
theorem srt_ext : ∀ {A B : List En}, Srt A → Srt B → (∀ x, x ∈ A ↔ x ∈ B) → A = B
  | [], [], _, _, _ => rfl
  | [], b :: B, _, _, h => absurd ((h b).2 List.mem_cons_self) (by simp)
  | a :: A, [], _, _, h => absurd ((h a).1 List.mem_cons_self) (by simp)
  | a :: A, b :: B, hA, hB, h => by
    obtain ⟨a1, a2⟩ := List.pairwise_cons.1 hA
    obtain ⟨b1, b2⟩ := List.pairwise_cons.1 hB
    have hab : a = b := by
      rcases List.mem_cons.1 ((h a).1 List.mem_cons_self) with e | e
      · exact e
      · rcases List.mem_cons.1 ((h b).2 List.mem_cons_self) with e2 | e2
        · exact e2.symm
        · exact absurd (a1 b e2) (b1 a e).asymm
    subst hab
    congr 1
    refine srt_ext a2 b2 (fun x => ⟨fun hx => ?_, fun hx => ?_⟩)
    · rcases List.mem_cons.1 ((h x).1 (List.mem_cons_of_mem _ hx)) with e | e
      · subst e; exact absurd (a1 x hx) (lt'.irr x)
      · exact e
    · rcases List.mem_cons.1 ((h x).2 (List.mem_cons_of_mem _ hx)) with e | e
      · subst e; exact absurd (b1 x hx) (lt'.irr x)
      · exact e

/-- one laid into the list, behind those that go ahead of it -/
def insE (e : En) : List En → List En
  | [] => [e]
  | x :: r => if lt' x e then x :: insE e r else e :: x :: r
theorem insE_mem (e x : En) : ∀ S : List En, x ∈ insE e S ↔ x = e ∨ x ∈ S
  | [] => by simp [insE]
  | y :: r => by
    unfold insE
    split
    · rw [List.mem_cons, insE_mem e x r, List.mem_cons]; constructor <;> intro h <;> (rcases h with h | h | h <;> simp [h])
    · rw [List.mem_cons]
theorem insE_len (e : En) : ∀ S : List En, (insE e S).length = S.length + 1
  | [] => rfl
  | y :: r => by unfold insE; split <;> simp [insE_len e r]
theorem insE_srt (e : En) : ∀ {S : List En}, Srt S → (∀ x, x ∈ S → x.pl ≠ e.pl) → Srt (insE e S)
  | [], _, _ => List.pairwise_singleton _ _
  | y :: r, h, hp => by
    obtain ⟨a1, a2⟩ := List.pairwise_cons.1 h
    unfold insE
    split
    · rename_i hy
      refine List.pairwise_cons.2 ⟨fun x hx => ?_, insE_srt e a2 (fun x hx => hp x (List.mem_cons_of_mem _ hx))⟩
      rcases (insE_mem e x r).1 hx with rfl | hx
      · exact hy
      · exact a1 x hx
    · rename_i hy
      have hey : lt' e y := (lt'.total (hp y List.mem_cons_self)).resolve_left hy
      refine List.pairwise_cons.2 ⟨fun x hx => ?_, h⟩
      rcases List.mem_cons.1 hx with rfl | hx
      · exact hey
      · exact hey.trans (a1 x hx)

/-- all but one number -/
def outE (i : Int) (S : List En) : List En := S.filter (fun x => x.id != i)
theorem outE_mem {i : Int} {S : List En} {x : En} : x ∈ outE i S ↔ x ∈ S ∧ x.id ≠ i := by unfold outE; simp
theorem outE_srt {i : Int} {S : List En} (h : Srt S) : Srt (outE i S) := List.Pairwise.filter _ h
theorem outE_same {i : Int} {S : List En} (h : ∀ x, x ∈ S → x.id ≠ i) : outE i S = S := by
  unfold outE; rw [List.filter_eq_self]; intro x hx; simpa using h x hx
theorem outE_len {i : Int} : ∀ {S : List En}, Srt S → (∀ x y, x ∈ S → y ∈ S → x.id = y.id → x = y) → (∃ x, x ∈ S ∧ x.id = i) → (outE i S).length + 1 = S.length
  | [], _, _, ⟨x, hx, _⟩ => by cases hx
  | y :: r, h, hu, ⟨x, hx, hi⟩ => by
    obtain ⟨a1, a2⟩ := List.pairwise_cons.1 h
    by_cases hy : y.id = i
    · have : outE i (y :: r) = r := by
        unfold outE
        rw [List.filter_cons, if_neg (by simpa using hy)]
        exact outE_same (S := r) (fun z hz e => by
          have := hu y z List.mem_cons_self (List.mem_cons_of_mem _ hz) (hy.trans e.symm)
          subst this
          exact lt'.irr _ (a1 _ hz))
      rw [this]; rfl
    · have hx' : x ∈ r := by
        rcases List.mem_cons.1 hx with e | e
        · subst e; exact absurd hi hy
        · exact e
      have := outE_len a2 (fun p q hp hq => hu p q (List.mem_cons_of_mem _ hp) (List.mem_cons_of_mem _ hq)) ⟨x, hx', hi⟩
      unfold outE at this ⊢
      rw [List.filter_cons, if_pos (by simpa using hy)]
      simp [this]

/-- entries of a list by place -/
def hd (H : List En) : Nat → En := fun i => H.getD i En0
theorem hd_set {H : List En} {k : Nat} (x : En) (hk : k < H.length) (i : Nat) : hd (H.set k x) i = up' (hd H) k x i := by
  unfold hd up'
  by_cases e : i = k
  · subst e; simp [List.getD, hk]
  · rw [if_neg e]; simp [List.getD, Ne.symm e]
theorem hd_get {H : List En} {i : Nat} (hi : i < H.length) : H[i]? = some (hd H i) := by
  unfold hd; simp [List.getD, hi]
theorem hd_take {H : List En} {k i : Nat} (hi : i < k) : hd (H.take k) i = hd H i := by
  unfold hd; simp [List.getD, hi]
theorem hd_app {H : List En} (e : En) {i : Nat} (hi : i < H.length + 1) : up' (hd H) H.length e i = hd (H ++ [e]) i := by
  unfold hd up'
  by_cases e : i = H.length
  · subst e; simp [List.getD]
  · rw [if_neg e]; simp [List.getD, List.getElem?_append_left (show i < H.length by omega)]
theorem hd_mem {H : List En} {x : En} : x ∈ H ↔ ∃ i, i < H.length ∧ hd H i = x := by
  constructor
  · intro hx
    obtain ⟨i, hi, rfl⟩ := List.getElem_of_mem hx
    exact ⟨i, hi, by unfold hd; simp [List.getD, hi]⟩
  · rintro ⟨i, hi, rfl⟩
    unfold hd; simp [List.getD, hi]

end Go.Proofs.Yteiakmjdjaodlaa
