/-
  Events as data: projections, the first difference (no dump).
-/
import Derived.Test.YtjhhldgbllbbhaaGreatDoorODat
namespace Go.Proofs.YtjhhldgbllbbhaaGreatDoor
set_option linter.unusedVariables false

structure Ev where
  tk : Int
  pt : Int
  kd : Int
  pr : Int
  ea : Int
  eb : Int
  d : List Int
  deriving DecidableEq
/-- those of one partition -/
def prj (p : Int) (l : List Ev) : List Ev := l.filter (fun e => decide (e.pt = p))
theorem prj_nil (p : Int) : prj p [] = [] := rfl
theorem prj_yes {p : Int} {x : Ev} (l : List Ev) (h : x.pt = p) : prj p (x :: l) = x :: prj p l := by simp [prj, h]
theorem prj_no {p : Int} {x : Ev} (l : List Ev) (h : ¬ x.pt = p) : prj p (x :: l) = prj p l := by simp [prj, h]
theorem prj_snoc (p : Int) (l : List Ev) (x : Ev) : prj p (l ++ [x]) = if x.pt = p then prj p l ++ [x] else prj p l := by
  by_cases h : x.pt = p <;> simp [prj, List.filter_append, h]
theorem prj_len (p : Int) (l : List Ev) : (prj p l).length ≤ l.length := List.length_filter_le _ _
theorem prj_same (p : Int) (l : List Ev) : prj p (prj p l) = prj p l := by simp [prj, List.filter_filter]
theorem prj_other {p q : Int} (h : p ≠ q) (l : List Ev) : prj q (prj p l) = [] := by
  unfold prj
  rw [List.filter_filter, List.filter_eq_nil_iff]
  intro x _
  simp
  intro h1 h2
  exact h (h2 ▸ h1)
/-- the first place at which two lists are unlike -/
def dif : List Ev → List Ev → Option Nat
  | [], [] => none
  | x :: a, y :: b => if x = y then (dif a b).map (· + 1) else some 0
  | _, _ => some 0
theorem dif_none : ∀ (a b : List Ev), dif a b = none ↔ a = b
  | [], [] => by simp [dif]
  | [], y :: b => by simp [dif]
  | x :: a, [] => by simp [dif]
  | x :: a, y :: b => by
    by_cases h : x = y
    · subst h; simp [dif, dif_none a b]
    · simp [dif, h]
theorem dif_comm : ∀ (a b : List Ev), dif a b = dif b a
  | [], [] => rfl
  | [], y :: b => rfl
  | x :: a, [] => rfl
  | x :: a, y :: b => by
    by_cases h : x = y
    · subst h; simp [dif, dif_comm a b]
    · simp [dif, h, Ne.symm h]
theorem dif_le : ∀ (a b : List Ev) (k : Nat), dif a b = some k → k ≤ a.length ∧ k ≤ b.length
  | [], [], k, h => by simp [dif] at h
  | [], y :: b, k, h => by simp [dif] at h; omega
  | x :: a, [], k, h => by simp [dif] at h; omega
  | x :: a, y :: b, k, h => by
    by_cases e : x = y
    · subst e
      simp [dif] at h
      obtain ⟨j, hj, rfl⟩ := h
      have := dif_le a b j hj
      simp
      omega
    · simp [dif, e] at h; omega
theorem dif_take : ∀ (a b : List Ev) (k : Nat), dif a b = some k → a.take k = b.take k
  | [], [], k, h => by simp [dif] at h
  | [], y :: b, k, h => by simp [dif] at h; subst h; rfl
  | x :: a, [], k, h => by simp [dif] at h; subst h; rfl
  | x :: a, y :: b, k, h => by
    by_cases e : x = y
    · subst e
      simp [dif] at h
      obtain ⟨j, hj, rfl⟩ := h
      simp [dif_take a b j hj]
    · simp [dif, e] at h; subst h; rfl
/-- told by the places -/
theorem dif_at {a b : List Ev} {k : Nat} (hk : ∀ i, i < k → a[i]? = b[i]?) (ha : k ≤ a.length) (hb : k ≤ b.length) :
    (∀ x y, a[k]? = some x → b[k]? = some y → x ≠ y → dif a b = some k) ∧ (k = a.length → k < b.length → dif a b = some k) ∧ (k < a.length → k = b.length → dif a b = some k) ∧ (k = a.length → k = b.length → dif a b = none) := by
  induction k generalizing a b with
  | zero =>
    refine ⟨fun x y hx hy hne => ?_, fun h1 h2 => ?_, fun h1 h2 => ?_, fun h1 h2 => ?_⟩
    · cases a with
      | nil => cases hx
      | cons u a =>
        cases b with
        | nil => cases hy
        | cons v b =>
          simp at hx hy
          subst hx hy
          simp [dif, hne]
    · cases a with
      | nil =>
        cases b with
        | nil => simp at h2
        | cons v b => rfl
      | cons u a => simp at h1
    · cases b with
      | nil =>
        cases a with
        | nil => simp at h1
        | cons v b => rfl
      | cons u a => simp at h2
    · have : a = [] := List.eq_nil_of_length_eq_zero h1.symm
      have : b = [] := List.eq_nil_of_length_eq_zero h2.symm
      subst_vars
      rfl
  | succ k ih =>
    cases a with
    | nil => simp at ha
    | cons u a =>
      cases b with
      | nil => simp at hb
      | cons v b =>
        have e : u = v := by simpa using hk 0 (by omega)
        subst e
        have := ih (a := a) (b := b) (fun i hi => by simpa using hk (i + 1) (by omega)) (by simpa using ha) (by simpa using hb)
        refine ⟨fun x y hx hy hne => ?_, fun h1 h2 => ?_, fun h1 h2 => ?_, fun h1 h2 => ?_⟩
        · simp [dif, this.1 x y (by simpa using hx) (by simpa using hy) hne]
        · simp at h1 h2; simp [dif, this.2.1 h1 h2]
        · simp at h1 h2; simp [dif, this.2.2.1 h1 h2]
        · simp at h1 h2; simp [dif, this.2.2.2 h1 h2]
/-- what Differ answers -/
def difV (a b : List Ev) : Int := match dif a b with
  | none => -1
  | some k => (k : Int)
theorem difV_none {a b : List Ev} : difV a b = -1 ↔ a = b := by
  unfold difV
  rw [← dif_none]
  cases dif a b with
  | none => simp
  | some k => simp
theorem difV_comm (a b : List Ev) : difV a b = difV b a := by unfold difV; rw [dif_comm]
theorem difV_self (a : List Ev) : difV a a = -1 := difV_none.2 rfl
theorem difV_cases (a b : List Ev) : (difV a b = -1 ∧ a = b) ∨ ∃ k : Nat, difV a b = (k : Int) ∧ k ≤ a.length ∧ k ≤ b.length ∧ a.take k = b.take k := by
  cases h : dif a b with
  | none => exact .inl ⟨by unfold difV; rw [h], (dif_none a b).1 h⟩
  | some k => exact .inr ⟨k, by unfold difV; rw [h], (dif_le a b k h).1, (dif_le a b k h).2, dif_take a b k h⟩

/-- how many events of the partitions 1 .. p -/
def cnt (l : List Ev) : Nat → Nat
  | 0 => 0
  | p + 1 => cnt l p + (prj (p + 1 : Int) l).length
theorem cnt_nil : ∀ p, cnt [] p = 0
  | 0 => rfl
  | p + 1 => by rw [cnt, cnt_nil p]; rfl
theorem cnt_cons (x : Ev) (l : List Ev) : ∀ p, cnt (x :: l) p = cnt l p + (if 1 ≤ x.pt ∧ x.pt ≤ (p : Int) then 1 else 0)
  | 0 => by rw [cnt, cnt, if_neg (by omega)]
  | p + 1 => by
    rw [cnt, cnt, cnt_cons x l p]
    by_cases h : x.pt = (p + 1 : Int)
    · rw [prj_yes l h, if_neg (by omega), if_pos (by omega), List.length_cons]; omega
    · rw [prj_no l h]
      by_cases h2 : 1 ≤ x.pt ∧ x.pt ≤ (p : Int)
      · rw [if_pos h2, if_pos (by omega)]; omega
      · rw [if_neg h2, if_neg (by omega)]; omega
theorem cnt_all {l : List Ev} {p : Nat} (h : ∀ x ∈ l, 1 ≤ x.pt ∧ x.pt ≤ (p : Int)) : cnt l p = l.length := by
  induction l with
  | nil => exact cnt_nil p
  | cons x l ih => rw [cnt_cons, if_pos (h x (List.mem_cons_self ..)), ih (fun y hy => h y (List.mem_cons_of_mem _ hy)), List.length_cons]
theorem cnt_le (l : List Ev) : ∀ p, cnt l p ≤ l.length := fun p => by
  induction l with
  | nil => rw [cnt_nil]; exact Nat.le_refl _
  | cons x l ih => rw [cnt_cons, List.length_cons]; split <;> omega
/-- the lists by their parts -/
theorem same_parts : ∀ (a b : List Ev), (∀ x ∈ a, 1 ≤ x.pt ∧ x.pt ≤ 32) → a.length = b.length → (∀ (i : Nat) (x y : Ev), a[i]? = some x → b[i]? = some y → x.pt = y.pt) → (∀ p : Nat, 1 ≤ p → p ≤ 32 → prj (p : Int) a = prj (p : Int) b) → a = b
  | [], [], _, _, _, _ => rfl
  | [], y :: b, _, h, _, _ => by simp at h
  | x :: a, [], _, h, _, _ => by simp at h
  | x :: a, y :: b, hg, hl, ho, hp => by
    have e := ho 0 x y rfl rfl
    have hx := hg x (List.mem_cons_self ..)
    have h1 := hp x.pt.toNat (by omega) (by omega)
    rw [show ((x.pt.toNat : Nat) : Int) = x.pt by omega, prj_yes a rfl, prj_yes b e.symm] at h1
    injection h1 with h1 h2
    subst h1
    congr 1
    refine same_parts a b (fun z hz => hg z (List.mem_cons_of_mem _ hz)) (by simpa using hl) (fun i u v hu hv => ho (i + 1) u v (by simpa using hu) (by simpa using hv)) (fun p p1 p2 => ?_)
    have h3 := hp p p1 p2
    by_cases h4 : x.pt = (p : Int)
    · rw [prj_yes a h4, prj_yes b h4] at h3
      injection h3
    · rw [prj_no a h4, prj_no b h4] at h3
      exact h3
end Go.Proofs.YtjhhldgbllbbhaaGreatDoor
