/-
  Paths, and the search along them (plain).
-/
import Derived.Test.YtdohjhhflfnncaaDoorHeap
namespace Go.Proofs.YtdohjhhflfnncaaDoor
set_option linter.unusedVariables false

/-- from i on, step by step -/
inductive Pth (s : Nat → Nat → Prop) (i : Nat) : Nat → Prop
  | refl : Pth s i i
  | step {j k : Nat} : Pth s i j → s j k → Pth s i k
theorem Pth.trans {s : Nat → Nat → Prop} {i j k : Nat} (h : Pth s i j) (h2 : Pth s j k) : Pth s i k := by
  induction h2 with
  | refl => exact h
  | step _ hs ih => exact .step ih hs
theorem Pth.one {s : Nat → Nat → Prop} {i j : Nat} (h : s i j) : Pth s i j := .step .refl h
theorem Pth.flip {s : Nat → Nat → Prop} {i j : Nat} (h : Pth s i j) : Pth (fun a b => s b a) j i := by
  induction h with
  | refl => exact .refl
  | step _ hs ih => exact (Pth.one (s := fun a b => s b a) hs).trans ih
theorem Pth.closed {s : Nat → Nat → Prop} {i j : Nat} {p : Nat → Prop} (h : Pth s i j) (hi : p i) (hc : ∀ a b, p a → s a b → p b) : p j := by
  induction h with
  | refl => exact hi
  | step _ hs ih => exact hc _ _ ih hs

/-- is it so at a place? -/
def isT (s : List Bool) (j : Nat) : Bool := (s[j]?).getD false
theorem isT_set {s : List Bool} {k j : Nat} (hk : k < s.length) : isT (s.set k true) j = (isT s j || decide (j = k)) := by
  unfold isT
  rw [List.getElem?_set]
  by_cases e : k = j
  · subst e; simp [hk]
  · have e2 : ¬ j = k := fun h => e h.symm
    simp [e, e2]
theorem isT_lt {s : List Bool} {j : Nat} (h : isT s j = true) : j < s.length := by
  unfold isT at h
  by_cases hj : j < s.length
  · exact hj
  · rw [List.getElem?_eq_none (by omega)] at h; cases h
theorem isT_get {s : List Bool} {j : Nat} (h : j < s.length) : s[j]? = some (isT s j) := by
  unfold isT
  rw [List.getElem?_eq_getElem h]; rfl

/-- how many are not so -/
def cntF : List Bool → Nat
  | [] => 0
  | b :: l => cntF l + (if b then 0 else 1)
theorem cntF_set : ∀ (s : List Bool) (k : Nat), s[k]? = some false → cntF (s.set k true) + 1 = cntF s
  | [], k, h => by simp at h
  | b :: l, 0, h => by simp at h; subst h; simp [cntF]
  | b :: l, k + 1, h => by
    have := cntF_set l k (by simpa using h)
    simp only [List.set_cons_succ, cntF]
    omega
theorem cntF_le : ∀ s : List Bool, cntF s ≤ s.length
  | [] => Nat.le_refl _
  | b :: l => by have := cntF_le l; simp only [cntF, List.length_cons]; split <;> omega
theorem cntF_rep (n : Nat) : cntF (List.replicate n false) = n := by
  induction n with
  | zero => rfl
  | succ n ih => simp [List.replicate_succ, cntF, ih]

/-- one way onwards: what is seen, what is open -/
def stp (p : List Bool × List Nat) (x : Nat) : List Bool × List Nat := if isT p.1 x then p else (p.1.set x true, p.2 ++ [x])
theorem stp_len (p : List Bool × List Nat) (x : Nat) : (stp p x).1.length = p.1.length := by unfold stp; split <;> simp
theorem stp_cnt (p : List Bool × List Nat) (x : Nat) (hx : x < p.1.length) : cntF (stp p x).1 + (stp p x).2.length = cntF p.1 + p.2.length := by
  unfold stp
  split
  · rfl
  · next h =>
    have := cntF_set p.1 x (by rw [isT_get hx]; simpa using h)
    simp
    omega
def ways (W : List (List Nat)) (p : Nat) : List Nat := (W[p]?).getD []
def fld (p : List Bool × List Nat) (l : List Nat) : List Bool × List Nat := l.foldl stp p
theorem fld_len (l : List Nat) : ∀ p, (fld p l).1.length = p.1.length := by
  induction l with
  | nil => intro p; rfl
  | cons x l ih => intro p; show (fld (stp p x) l).1.length = _; rw [ih, stp_len]
theorem fld_cnt (l : List Nat) : ∀ p, (∀ x ∈ l, x < p.1.length) → cntF (fld p l).1 + (fld p l).2.length = cntF p.1 + p.2.length := by
  induction l with
  | nil => intro p _; rfl
  | cons x l ih =>
    intro p h
    show cntF (fld (stp p x) l).1 + (fld (stp p x) l).2.length = _
    rw [ih _ (fun y hy => by rw [stp_len]; exact h y (by simp [hy])), stp_cnt _ _ (h x (by simp))]
theorem fld_app (p : List Bool × List Nat) (l : List Nat) (x : Nat) : fld p (l ++ [x]) = stp (fld p l) x := by simp [fld]

/-- the search: it takes the last that is open -/
def dfs (W : List (List Nat)) : Nat → List Bool → List Nat → List Bool
  | 0, s, _ => s
  | f + 1, s, o => if o = [] then s else dfs W f (fld (s, o.dropLast) (ways W (o.getLastD 0))).1 (fld (s, o.dropLast) (ways W (o.getLastD 0))).2
def rch (W : List (List Nat)) (i : Nat) : List Bool := dfs W W.length ((List.replicate W.length false).set i true) [i]

/-- ways that lead to places there are -/
def Wok (W : List (List Nat)) : Prop := ∀ p, ∀ x ∈ ways W p, x < W.length
theorem dfs_len (W : List (List Nat)) : ∀ f s o, (dfs W f s o).length = s.length := by
  intro f
  induction f with
  | zero => intro s o; rfl
  | succ f ih => intro s o; unfold dfs; split; rfl; rw [ih, fld_len]
theorem rch_len (W : List (List Nat)) (i : Nat) : (rch W i).length = W.length := by unfold rch; rw [dfs_len]; simp
theorem dfs_nil (W : List (List Nat)) (f : Nat) (s : List Bool) : dfs W f s [] = s := by cases f <;> simp [dfs]

theorem stp_seen (p : List Bool × List Nat) (x j : Nat) (hx : x < p.1.length) : isT (stp p x).1 j = (isT p.1 j || decide (j = x)) := by
  unfold stp
  split
  · next h =>
    by_cases e : j = x
    · subst e; simp [h]
    · simp [e]
  · exact isT_set hx
theorem stp_open (p : List Bool × List Nat) (x j : Nat) : j ∈ (stp p x).2 ↔ j ∈ p.2 ∨ (j = x ∧ isT p.1 x = false) := by
  unfold stp
  split
  · next h => simp [h]
  · next h => simp [h]
theorem fld_seen (l : List Nat) : ∀ (p : List Bool × List Nat) (j : Nat), (∀ x ∈ l, x < p.1.length) → (isT (fld p l).1 j = true ↔ isT p.1 j = true ∨ j ∈ l) := by
  induction l with
  | nil => intro p j _; simp [fld]
  | cons x l ih =>
    intro p j h
    show isT (fld (stp p x) l).1 j = true ↔ _
    rw [ih _ j (fun y hy => by rw [stp_len]; exact h y (by simp [hy])), stp_seen _ _ _ (h x (by simp))]
    simp [or_assoc]
theorem fld_open (l : List Nat) : ∀ (p : List Bool × List Nat) (j : Nat), (∀ x ∈ l, x < p.1.length) → (j ∈ (fld p l).2 ↔ j ∈ p.2 ∨ (j ∈ l ∧ isT p.1 j = false)) := by
  induction l with
  | nil => intro p j _; simp [fld]
  | cons x l ih =>
    intro p j h
    show j ∈ (fld (stp p x) l).2 ↔ _
    rw [ih _ j (fun y hy => by rw [stp_len]; exact h y (by simp [hy])), stp_seen _ _ _ (h x (by simp)), stp_open]
    by_cases e : j = x
    · subst e; simp
    · simp [e]

/-- what the search keeps -/
structure Sx (W : List (List Nat)) (i : Nat) (s : List Bool) (o : List Nat) : Prop where
  len : s.length = W.length
  op : ∀ v ∈ o, isT s v = true
  st : isT s i = true
  pa : ∀ j, isT s j = true → Pth (fun a b => b ∈ ways W a) i j
  cl : ∀ v, isT s v = true → v ∉ o → ∀ u ∈ ways W v, isT s u = true

theorem last_split {o : List Nat} (h : o ≠ []) : o = o.dropLast ++ [o.getLastD 0] := by
  obtain ⟨q, p, rfl⟩ : ∃ q p, o = q ++ [p] := ⟨o.dropLast, o.getLast h, (List.dropLast_concat_getLast h).symm⟩
  simp
theorem Sx.next {W : List (List Nat)} {i : Nat} {s : List Bool} {o : List Nat} (hW : Wok W) (h : Sx W i s o) (ho : o ≠ []) : Sx W i (fld (s, o.dropLast) (ways W (o.getLastD 0))).1 (fld (s, o.dropLast) (ways W (o.getLastD 0))).2 := by
  have hs := last_split ho
  generalize o.getLastD 0 = p at *
  generalize o.dropLast = q at *
  subst hs
  have hl : ∀ x ∈ ways W p, x < (s, q).1.length := fun x hx => by show x < s.length; rw [h.len]; exact hW p x hx
  refine ⟨by rw [fld_len]; exact h.len, ?_, ?_, ?_, ?_⟩
  · intro v hv
    rw [fld_seen _ _ _ hl]
    rcases (fld_open _ _ _ hl).1 hv with h1 | h1
    · exact .inl (h.op v (by simp; exact .inl h1))
    · exact .inr h1.1
  · rw [fld_seen _ _ _ hl]; exact .inl h.st
  · intro j hj
    rcases (fld_seen _ _ _ hl).1 hj with h1 | h1
    · exact h.pa j h1
    · exact .step (h.pa p (h.op p (by simp))) h1
  · intro v hv hn u hu
    rw [fld_seen _ _ _ hl] at hv ⊢
    rw [fld_open _ _ _ hl] at hn
    by_cases e : v = p
    · subst e; exact .inr hu
    · refine .inl (h.cl v ?_ ?_ u hu)
      · rcases hv with h1 | h1
        · exact h1
        · cases hb : isT s v with
          | true => rfl
          | false => exact absurd (.inr ⟨h1, hb⟩) hn
      · intro h1
        rcases List.mem_append.1 h1 with h2 | h2
        · exact hn (.inl h2)
        · simp at h2; exact e h2
theorem dfs_ok {W : List (List Nat)} {i : Nat} (hW : Wok W) : ∀ f s o, Sx W i s o → cntF s + o.length ≤ f → ∃ s', dfs W f s o = s' ∧ Sx W i s' [] := by
  intro f
  induction f with
  | zero =>
    intro s o h hf
    have : o = [] := List.eq_nil_of_length_eq_zero (by omega)
    subst this
    exact ⟨s, rfl, h⟩
  | succ f ih =>
    intro s o h hf
    by_cases ho : o = []
    · subst ho; exact ⟨s, dfs_nil _ _ _, h⟩
    · have hn := h.next hW ho
      obtain ⟨s', e, h'⟩ := ih _ _ hn (by
        rw [fld_cnt _ _ (fun x hx => by show x < s.length; rw [h.len]; exact hW _ x hx)]
        have : o.length ≠ 0 := fun e => ho (List.eq_nil_of_length_eq_zero e)
        simp
        omega)
      exact ⟨s', by unfold dfs; rw [if_neg ho]; exact e, h'⟩
theorem rch_ok {W : List (List Nat)} {i : Nat} (hW : Wok W) (hi : i < W.length) (j : Nat) : isT (rch W i) j = true ↔ Pth (fun a b => b ∈ ways W a) i j := by
  have hl : i < (List.replicate W.length false).length := by simpa using hi
  have hT : ∀ j, isT ((List.replicate W.length false).set i true) j = decide (j = i) := fun j => by
    rw [isT_set hl]
    have : isT (List.replicate W.length false) j = false := by
      unfold isT
      rw [List.getElem?_replicate]
      split <;> rfl
    rw [this]; simp
  obtain ⟨s', e, h⟩ := dfs_ok (W := W) (i := i) hW W.length ((List.replicate W.length false).set i true) [i] ⟨by simp, fun v hv => by simp at hv; subst hv; rw [hT]; simp, by rw [hT]; simp, fun j hj => by rw [hT] at hj; simp at hj; subst hj; exact .refl, fun v hv hn => by rw [hT] at hv; simp at hv hn; exact absurd hv hn⟩ (by
    have := cntF_set (List.replicate W.length false) i (by rw [List.getElem?_replicate, if_pos hi])
    rw [cntF_rep] at this
    simp
    omega)
  have e2 : rch W i = s' := e
  rw [e2]
  exact ⟨h.pa j, fun hp => Pth.closed (p := fun j => isT s' j = true) hp h.st (fun a b ha hb => h.cl a ha (by simp) b hb)⟩

/-! ### roads -/
def onw (E : List (Nat × Nat)) (n : Nat) : List (List Nat) := (List.range n).map fun i => (E.filter (fun p => p.1 == i)).map (·.2)
def bkw (E : List (Nat × Nat)) (n : Nat) : List (List Nat) := (List.range n).map fun i => (E.filter (fun p => p.2 == i)).map (·.1)
def Eok (E : List (Nat × Nat)) (n : Nat) : Prop := ∀ p ∈ E, p.1 < n ∧ p.2 < n
theorem onw_mem {E : List (Nat × Nat)} {n i j : Nat} (hE : Eok E n) : j ∈ ways (onw E n) i ↔ (i, j) ∈ E := by
  unfold ways onw
  by_cases hi : i < n
  · simp [hi]
  · simp [show n ≤ i by omega]
    intro h
    exact hi (hE _ h).1
theorem bkw_mem {E : List (Nat × Nat)} {n i j : Nat} (hE : Eok E n) : j ∈ ways (bkw E n) i ↔ (j, i) ∈ E := by
  unfold ways bkw
  by_cases hi : i < n
  · simp [hi]
  · simp [show n ≤ i by omega]
    intro h
    exact hi (hE _ h).2
theorem onw_len (E : List (Nat × Nat)) (n : Nat) : (onw E n).length = n := by simp [onw]
theorem bkw_len (E : List (Nat × Nat)) (n : Nat) : (bkw E n).length = n := by simp [bkw]
theorem onw_ok {E : List (Nat × Nat)} {n : Nat} (hE : Eok E n) : Wok (onw E n) := fun p x hx => by rw [onw_len]; exact (hE _ ((onw_mem hE).1 hx)).2
theorem bkw_ok {E : List (Nat × Nat)} {n : Nat} (hE : Eok E n) : Wok (bkw E n) := fun p x hx => by rw [bkw_len]; exact (hE _ ((bkw_mem hE).1 hx)).1
/-- a path of roads -/
def Road (E : List (Nat × Nat)) : Nat → Nat → Prop := Pth (fun a b => (a, b) ∈ E)
theorem far_ok {E : List (Nat × Nat)} {n i : Nat} (hE : Eok E n) (hi : i < n) (j : Nat) : isT (rch (onw E n) i) j = true ↔ Road E i j := by
  rw [rch_ok (onw_ok hE) (by rw [onw_len]; exact hi)]
  have : (fun a b => b ∈ ways (onw E n) a) = (fun a b => (a, b) ∈ E) := by funext a b; exact propext (onw_mem hE)
  rw [this]; rfl
theorem src_ok {E : List (Nat × Nat)} {n i : Nat} (hE : Eok E n) (hi : i < n) (j : Nat) : isT (rch (bkw E n) i) j = true ↔ Road E j i := by
  rw [rch_ok (bkw_ok hE) (by rw [bkw_len]; exact hi)]
  have : (fun a b => b ∈ ways (bkw E n) a) = (fun a b => (b, a) ∈ E) := by funext a b; exact propext (bkw_mem hE)
  rw [this]
  exact ⟨fun h => Pth.flip h, fun h => Pth.flip h⟩
/-- whether there is a road -/
def nearB (E : List (Nat × Nat)) (i j : Nat) : Bool := E.contains (i, j)
theorem nearB_iff {E : List (Nat × Nat)} {i j : Nat} : nearB E i j = true ↔ (i, j) ∈ E := by unfold nearB; simp
end Go.Proofs.YtdohjhhflfnncaaDoor
