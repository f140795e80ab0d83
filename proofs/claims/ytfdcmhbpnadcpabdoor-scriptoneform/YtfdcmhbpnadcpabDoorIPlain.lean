/-
  Inputs as data: merged, cut, kept in order (no dump).
-/
import Derived.Test.YtfdcmhbpnadcpabDoorODat
namespace Go.Proofs.YtfdcmhbpnadcpabDoor
set_option linter.unusedVariables false

structure Inp where
  tk : Int
  kd : Int
  tg : Int
  d : List Int
/-- two scripts in one -/
def mrg : List Inp → List Inp → List Inp
  | [], b => b
  | x :: a, [] => x :: a
  | x :: a, y :: b => if x.tk ≤ y.tk then x :: mrg a (y :: b) else y :: mrg (x :: a) b
termination_by a b => a.length + b.length
theorem mrg_nil_l (b : List Inp) : mrg [] b = b := by rw [mrg]
theorem mrg_nil_r (a : List Inp) : mrg a [] = a := by cases a <;> rw [mrg]
theorem mrg_le {x y : Inp} (a b : List Inp) (h : x.tk ≤ y.tk) : mrg (x :: a) (y :: b) = x :: mrg a (y :: b) := by rw [mrg, if_pos h]
theorem mrg_gt {x y : Inp} (a b : List Inp) (h : ¬ x.tk ≤ y.tk) : mrg (x :: a) (y :: b) = y :: mrg (x :: a) b := by rw [mrg, if_neg h]
theorem mrg_len : ∀ (a b : List Inp), (mrg a b).length = a.length + b.length
  | [], b => by rw [mrg_nil_l]; simp
  | x :: a, [] => by rw [mrg_nil_r]; simp
  | x :: a, y :: b => by
    by_cases h : x.tk ≤ y.tk
    · rw [mrg_le a b h]; simp [mrg_len a (y :: b)]; omega
    · rw [mrg_gt a b h]; simp [mrg_len (x :: a) b]; omega
termination_by a b => a.length + b.length
theorem mrg_mem {z : Inp} : ∀ (a b : List Inp), z ∈ mrg a b ↔ z ∈ a ∨ z ∈ b
  | [], b => by rw [mrg_nil_l]; simp
  | x :: a, [] => by rw [mrg_nil_r]; simp
  | x :: a, y :: b => by
    by_cases h : x.tk ≤ y.tk
    · rw [mrg_le a b h, List.mem_cons, mrg_mem a (y :: b), List.mem_cons (b := x), or_assoc]
    · rw [mrg_gt a b h, List.mem_cons, mrg_mem (x :: a) b, List.mem_cons, List.mem_cons]
      constructor
      · rintro (h | (h | h) | h) <;> simp [h]
      · rintro ((h | h) | (h | h)) <;> simp [h]
termination_by a b => a.length + b.length
/-- the ticks do not fall -/
def Rise (l : List Inp) : Prop := l.Pairwise (fun x y => x.tk ≤ y.tk)
theorem Rise.mrg : ∀ {a b : List Inp}, Rise a → Rise b → Rise (mrg a b)
  | [], b, _, hb => by rw [mrg_nil_l]; exact hb
  | x :: a, [], ha, _ => by rw [mrg_nil_r]; exact ha
  | x :: a, y :: b, ha, hb => by
    have ha' := List.pairwise_cons.1 ha
    have hb' := List.pairwise_cons.1 hb
    by_cases h : x.tk ≤ y.tk
    · rw [mrg_le a b h]
      refine List.pairwise_cons.2 ⟨fun z hz => ?_, Rise.mrg ha'.2 hb⟩
      rcases (mrg_mem a (y :: b)).1 hz with h1 | h1
      · exact ha'.1 z h1
      · rcases List.mem_cons.1 h1 with rfl | h1
        · exact h
        · have := hb'.1 z h1; omega
    · rw [mrg_gt a b h]
      refine List.pairwise_cons.2 ⟨fun z hz => ?_, Rise.mrg ha hb'.2⟩
      rcases (mrg_mem (x :: a) b).1 hz with h1 | h1
      · rcases List.mem_cons.1 h1 with rfl | h1
        · omega
        · have := ha'.1 z h1; omega
      · exact hb'.1 z h1
termination_by a b _ _ => a.length + b.length
theorem mrg_assoc : ∀ {a b c : List Inp}, Rise a → Rise b → Rise c → mrg (mrg a b) c = mrg a (mrg b c)
  | [], b, c, _, _, _ => by rw [mrg_nil_l, mrg_nil_l]
  | x :: a, [], c, _, _, _ => by rw [mrg_nil_r, mrg_nil_l]
  | x :: a, y :: b, [], _, _, _ => by rw [mrg_nil_r, mrg_nil_r]
  | x :: a, y :: b, z :: c, ha, hb, hc => by
    have ha' := (List.pairwise_cons.1 ha).2
    have hb' := (List.pairwise_cons.1 hb).2
    have hc' := (List.pairwise_cons.1 hc).2
    by_cases h1 : x.tk ≤ y.tk
    · by_cases h2 : y.tk ≤ z.tk
      · rw [mrg_le a b h1, mrg_le b c h2, mrg_le _ _ (by omega : x.tk ≤ z.tk), mrg_le _ _ h1, mrg_assoc ha' hb hc, mrg_le b c h2]
      · rw [mrg_gt b c h2]
        by_cases h3 : x.tk ≤ z.tk
        · rw [mrg_le a b h1, mrg_le _ _ h3, mrg_le _ _ h3, mrg_assoc ha' hb hc, mrg_gt b c h2]
        · rw [mrg_le a b h1, mrg_gt _ _ h3, mrg_gt _ _ h3, ← mrg_assoc ha hb hc', mrg_le a b h1]
    · by_cases h2 : y.tk ≤ z.tk
      · rw [mrg_gt a b h1, mrg_le b c h2, mrg_le _ _ h2, mrg_gt _ _ h1, mrg_assoc ha hb' hc]
      · have h3 : ¬ x.tk ≤ z.tk := by omega
        rw [mrg_gt a b h1, mrg_gt b c h2, mrg_gt _ _ h2, mrg_gt _ _ h3, ← mrg_assoc ha hb hc', mrg_gt a b h1]
termination_by a b c _ _ _ => a.length + b.length + c.length
/-- from one tick on and below another -/
def cutB (f t : Int) (x : Inp) : Bool := decide (f ≤ x.tk) && decide (x.tk < t)
def cutL (l : List Inp) (f t : Int) : List Inp := l.filter (cutB f t)
theorem Rise.filter {l : List Inp} (h : Rise l) (p : Inp → Bool) : Rise (l.filter p) := List.Pairwise.filter p h
theorem mrg_app : ∀ {a b : List Inp}, (∀ x ∈ a, ∀ y ∈ b, x.tk ≤ y.tk) → mrg a b = a ++ b
  | [], b, _ => by rw [mrg_nil_l]; rfl
  | x :: a, [], _ => by rw [mrg_nil_r]; simp
  | x :: a, y :: b, h => by
    rw [mrg_le a b (h x (by simp) y (by simp)), mrg_app (fun u hu v hv => h u (by simp [hu]) v hv)]
    rfl
theorem split_at (at' : Int) : ∀ {l : List Inp}, Rise l → l.filter (fun x => decide (x.tk < at')) ++ l.filter (fun x => decide (at' ≤ x.tk)) = l
  | [], _ => rfl
  | x :: l, h => by
    have h' := List.pairwise_cons.1 h
    by_cases hx : x.tk < at'
    · rw [List.filter_cons_of_pos (by simpa using hx), List.filter_cons_of_neg (by simp; omega), List.cons_append, split_at at' h'.2]
    · have h0 : (x :: l).filter (fun x => decide (x.tk < at')) = [] := by
        rw [List.filter_eq_nil_iff]
        intro z hz
        rcases List.mem_cons.1 hz with rfl | hz
        · simp; omega
        · have := h'.1 z hz; simp; omega
      rw [h0, List.nil_append, List.filter_eq_self.2]
      intro z hz
      rcases List.mem_cons.1 hz with rfl | hz
      · simp; omega
      · have := h'.1 z hz; simp; omega
/-- cut anywhere and merged again -/
theorem cut_mrg {l : List Inp} (h : Rise l) (at' : Int) (h6 : ∀ x ∈ l, -9223372036854775808 ≤ x.tk ∧ x.tk < 9223372036854775807) : mrg (cutL l (-9223372036854775808) at') (cutL l at' 9223372036854775807) = l := by
  have e1 : cutL l (-9223372036854775808) at' = l.filter (fun x => decide (x.tk < at')) := by
    refine List.filter_congr fun x hx => ?_
    have := h6 x hx
    simp [cutB, this.1]
  have e2 : cutL l at' 9223372036854775807 = l.filter (fun x => decide (at' ≤ x.tk)) := by
    refine List.filter_congr fun x hx => ?_
    have := h6 x hx
    simp [cutB, this.2]
  rw [e1, e2, mrg_app, split_at at' h]
  intro x hx y hy
  have h1 := of_decide_eq_true (List.mem_filter.1 hx).2
  have h2 := of_decide_eq_true (List.mem_filter.1 hy).2
  omega
/-- what is kept in order: one below the greatest so far is left out -/
def keepB (out : List Inp) (x : Inp) : Bool := match out.getLast? with
  | none => true
  | some y => decide (y.tk ≤ x.tk)
def srt : List Inp → List Inp → List Inp
  | out, [] => out
  | out, x :: l => srt (if keepB out x then out ++ [x] else out) l
theorem Rise.snoc {out : List Inp} {x : Inp} (h : Rise out) (hk : keepB out x = true) : Rise (out ++ [x]) := by
  refine List.pairwise_append.2 ⟨h, List.pairwise_singleton _ _, fun u hu v hv => ?_⟩
  rw [List.mem_singleton] at hv
  subst hv
  unfold keepB at hk
  rcases List.eq_nil_or_concat out with rfl | ⟨l, y, rfl⟩
  · cases hu
  · simp at hk
    rw [List.concat_eq_append] at hu h
    rcases List.mem_append.1 hu with hu | hu
    · have := (List.pairwise_append.1 h).2.2 u hu y (by simp)
      omega
    · rw [List.mem_singleton] at hu
      subst hu
      exact hk
/-- woven: m from n on is what is left of both -/
theorem drop_cons {α : Type} {l : List α} {i : Nat} {x : α} (h : l[i]? = some x) : l.drop i = x :: l.drop (i + 1) := by
  obtain ⟨hi, rfl⟩ := List.getElem?_eq_some_iff.1 h
  exact List.drop_eq_getElem_cons hi
theorem drop_nil {α : Type} {l : List α} {i : Nat} (h : l.length ≤ i) : l.drop i = [] := List.drop_eq_nil_of_le h
theorem at_drop {α : Type} {l : List α} {i : Nat} {x : α} {r : List α} (h : l.drop i = x :: r) : l[i]? = some x ∧ l.drop (i + 1) = r := by
  have hi : i < l.length := by
    by_cases e : i < l.length
    · exact e
    · rw [drop_nil (by omega)] at h; cases h
  rw [List.drop_eq_getElem_cons hi] at h
  injection h with h1 h2
  exact ⟨by rw [List.getElem?_eq_getElem hi, h1], h2⟩
end Go.Proofs.YtfdcmhbpnadcpabDoor
